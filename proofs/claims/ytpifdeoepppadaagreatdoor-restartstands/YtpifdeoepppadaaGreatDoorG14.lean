/- Texts of one layer, one behind the other. -/
import Derived.Test.YtpifdeoepppadaaGreatDoorG6
import Derived.Test.YtpifdeoepppadaaGreatDoorG13
import Derived.Deep.RegionHeld3
import Derived.Shelf.Abstract
set_option maxRecDepth 100000
set_option maxHeartbeats 8000000
namespace Go.Proofs.YtpifdeoepppadaaGreatDoor
open Go.RowKit
set_option linter.unusedVariables false
theorem nU (g:Nat):∀(vs:List Value) (o:Nat) (w:World),w.grownBy (w.setCells g o vs) (some g)
 |[],_,w=>World.grownBy.refl _ _
 |v::r,o,w=>aO (aC w ⟨g,o,none⟩ v) (nU g r (o+1) _)
theorem uy {g:Nat}{t:TypeId}{fr:Nat×Nat}:∀(vs:List Value) (o:Nat) (w:World) (cur:Array Value),w.heap[g]? =some (.cells cur t fr)→∃cur',(w.setCells g o vs).heap[g]? =some (.cells cur' t fr)∧cur'.size=cur.size∧∀j,j<o→cur'[j]? =cur[j]?
 |[],_,w,cur,h=>⟨cur,h,rfl,fun _ _=>rfl⟩
 |v::r,o,w,cur,h=>by
  obtain⟨cur',h1,h2,h3⟩:=uy r (o+1) (w.setCell ⟨g,o,none⟩ v) _ (aL h o v)
  refine⟨cur',h1,by rw[h2];simp,fun j hj=>?_⟩
  rw[h3 j (by omega),Array.getElem?_setIfInBounds,if_neg (by omega)]
theorem xS {w:World}{base e size g n cap:Nat}{xs:List Value}(h:w.ownsRow base e size (.slice (some ⟨g,0,none⟩) n cap) n xs)(o:Nat)(ho:n*size≤o)(vs:List Value):(w.setCells g o vs).ownsRow base e size (.slice (some ⟨g,0,none⟩) n cap) n xs:=by
 refine⟨h.1,?_⟩
 rcases h.2 with⟨h',_⟩|⟨g',cap',cur,h',hb,hg,hnc,hcm,hcs,htake⟩
 ·simp at h'
 ·simp only[Value.slice.injEq,Option.some.injEq,Addr.mk.injEq,and_true,true_and]at h'
  obtain⟨rfl,rfl⟩:=h'
  obtain⟨cur',h1,h2,h3⟩:=uy vs o w cur hg
  refine .inr ⟨g,cap,cur',rfl,hb,h1,hnc,hcm,by rw[h2,hcs],?_⟩
  rw[←htake]
  apply List.ext_getElem?
  intro i
  rw[List.getElem?_take,List.getElem?_take]
  split
  ·rw[Array.getElem?_toList,Array.getElem?_toList,h3 i (by omega)]
  ·rfl
theorem uJ {P:Program}{n:Nat}(w:World)(t e ty:TypeId)(z:Value)(ht:P.underlying t=some (.slice e))(hv:∀w,(zeroValue e).run P w=.ok z w)(h1:∀u∈(Builtin.zeroCells z.cells n).toList,u.oneCell'=true)(b o c:Nat)(hn:0<n)
  (hc:∀j,j<(Builtin.zeroCells z.cells n).toList.length→(w.cell? ⟨b,o+j,none⟩).isSome=true) (hf:∀j,j<(Builtin.zeroCells z.cells n).toList.length→w.frozen? ⟨b,o+j,none⟩=false):
  (Builtin.clear_ #[t] ty #[.slice (some ⟨b,o,none⟩) n c]).run P w=.ok (.tuple #[]) (w.setCells b o (Builtin.zeroCells z.cells n).toList):=by
 have hst:=run_storeCells_cells (P:=P) b o (Builtin.zeroCells z.cells n).toList 0 w (by simpa using hc) (by simpa using hf) h1
 simp only[Nat.add_zero]at hst
 obtain⟨m,rfl⟩:∃m,n=m+1:=⟨n-1,by omega⟩
 simp[Builtin.clear_,run_underlying ht,hv,hst]
theorem xI (z:Array Value)(n:Nat):(Builtin.zeroCells z n).toList.length=n*z.size:=by
 rw[Array.length_toList,size_zeroCells]
theorem xD {z:Array Value}(n:Nat)(hz:∀u∈z,u.oneCell'=true):∀u∈(Builtin.zeroCells z n).toList,u.oneCell'=true:=by
 intro u hu
 unfold Builtin.zeroCells at hu
 rw[Array.toList_map,Array.toList_range,List.mem_map]at hu
 obtain⟨i,hi,rfl⟩:=hu
 rw[List.mem_range]at hi
 have h0:0<z.size:=Nat.pos_of_ne_zero fun h=>by rw[h]at hi;simp at hi
 have hlt:i % z.size<z.size:=Nat.mod_lt _ h0
 rw[getElem!_pos z _ hlt]
 exact hz _ (Array.getElem_mem hlt)
section
variable {α:Type} {P:Program} {w:World} {v:Value}
theorem iJ.dP {f:α→List Value}{k:Nat}(hk:∀a,(f a).length=k){l:List α}(h:iJ f w v l){t:TypeId}(ht:P.underlying t=some (.slice (P.elem t)))(hs:∀wx,(sizeOf (P.elem t)).run P wx=.ok k wx)(p:Nat)(hp:p≤l.length):
  ∃vs,(∀wx,(Instr.slice t v (some (.int .i64 p)) none none).run P wx=.ok vs wx)∧iJ f w vs (l.drop p):=by
 have hlen:(l.drop p).length=l.length-p:=by rw[List.length_drop]
 rcases h with⟨hv,hz⟩|⟨ad,cap,hv,h1,h2,hc⟩
 ·subst hz hv
  obtain rfl:p=0:=by simpa using hp
  refine⟨.slice none 0 0,fun wx=>?_,iJ.nil _ _⟩
  rw[run_slice_l wx t none 0 0 ht .i64 _ (by omega) (by omega)]
  simp[Result.andThen,sliced,hs]
 ·subst hv
  by_cases hcl:cap=p
  ·refine⟨.slice (some ad) (l.length-p) (cap-p),fun wx=>?_,.inr ⟨ad,cap-p,by rw[hlen],by rw[hlen];omega,by omega,fun j u hj=>?_⟩⟩
   ·rw[run_slice_l wx t (some ad) l.length cap ht .i64 _ (by omega) (by omega),hs]
    simp[Result.andThen,sliced,hcl]
   ·rw[List.drop_eq_nil_of_le (by omega)]at hj
    simp[gcells]at hj
  ·refine⟨.slice (some (ad.add (p*k))) (l.length-p) (cap-p),fun wx=>?_,.inr ⟨ad.add (p*k),cap-p,by rw[hlen],by rw[hlen];omega,by omega,fun j u hj=>?_⟩⟩
   ·rw[run_slice_l wx t (some ad) l.length cap ht .i64 _ (by omega) (by omega),hs]
    simp[Result.andThen,sliced,hcl]
   ·have e:(ad.add (p*k)).add j=ad.add (p*k+j):=by
     unfold Addr.add
     by_cases h0:p*k=0<;>by_cases h3:j=0<;>simp[h0,h3,Nat.add_assoc]
    rw[aar hk,List.getElem?_drop]at hj
    rw[e]
    exact hc _ u hj
end
theorem aeb (rs:List Rv)(h:∀r∈rs,∃a n c,r.v=.slice a n c):∀u∈gcells jw rs,u.oneCell'=true:=by
 induction rs with
 |nil=>simp[gcells]
 |cons r l ih=>
  intro u hu
  rw[gcells,List.mem_append]at hu
  rcases hu with hu|hu
  ·obtain⟨a,n,c,hv⟩:=h r (by simp)
   simp only[jw,List.mem_cons,List.not_mem_nil,or_false]at hu
   rcases hu with rfl|rfl|rfl|rfl
   ·rfl
   ·rfl
   ·rw[hv];rfl
   ·rfl
  ·exact ih (fun r hr=>h r (by simp[hr])) u hu
theorem Tryz.aiY:(Tryz.prog.info? 132).map (fun i=>(i.zero,i.size,i.bytes))=some (some (.agg #[.int .i64 0,.int .i64 0,.slice none 0 0,.int .i64 0]),4,48):=by kernel_rfl
theorem Tryz.abL:Tryz.prog.underlying 73=some (.slice (Tryz.prog.elem 73)):=by kernel_rfl
theorem Tryz.aco (wx:World):(sizeOf (Tryz.prog.elem 73)).run Tryz.prog wx=.ok 4 wx:=by kernel_rfl
theorem Tryz.azM (wx:World):(zeroValue 132).run Tryz.prog wx=.ok (.agg #[.int .i64 0,.int .i64 0,.slice none 0 0,.int .i64 0]) wx:=by kernel_rfl
theorem ava (w:World)(wv:Value)(rs:List Rv)(n:Nat)(hrow:gG jw 4 132 0 w wv rs)(hsl:∀r∈rs,∃a n c,r.v=.slice a n c)(hn:n≤rs.length)(hlen:rs.length≤1000000):
  Calls Tryz.prog 151 #[wv,.int .i64 0,.int .i64 n] w fun E w'=>∃v',E=.returned v'∧gG jw 4 132 0 w' v' (rs.drop n)∧Out (fun g=>wv.ownBlock=some g) w w'∧v'.ownBlock=wv.ownBlock:=by
 by_cases h0:n=0
 ·subst h0
  obtain⟨ao,cap,hv,hcap,hcm⟩:=hrow.row.shape
  subst hv
  have R:=hide (show gG jw 4 132 0 w (.slice ao rs.length cap) (rs.drop 0)from hrow)
  clear hrow hsl
  go_enter Tryz.func151,Tryz.ntmps151
  go_wp2
  all_goals (go_ret;exact⟨_,rfl,R.out,Out.refl _ _,rfl⟩)
 ·obtain⟨L,hL⟩:∃L,L=rs.length:=⟨_,rfl⟩
  obtain⟨m,hm⟩:∃m,L=n+m:=⟨L-n,by omega⟩
  obtain⟨g,cap,hv,hcap,hcm,hcell,azS⟩:∃g cap,wv=.slice (some ⟨g,0,none⟩) L cap∧L≤cap∧cap≤maxLen∧(∀j,j<cap*4→(w.cell? ⟨g,j,none⟩).isSome=true)∧∀j,w.frozen? ⟨g,j,none⟩=false:=by
   rcases hrow.2 with⟨_,h⟩|⟨g,cap,cur,hv,_,hg,hc,hm',hs,_⟩
   ·omega
   ·refine⟨g,cap,by rw[hL];exact hv,by rw[hL];exact hc,hm',fun j hj=>?_,fun j=>az hg j⟩
    rw[ai hg j (Array.getElem?_eq_getElem (by omega:j<cur.size))]
    rfl
  have hdl:(rs.drop n).length=m:=by rw[List.length_drop];omega
  obtain⟨i,hi,hz,hsize,hby⟩:=info_parts Tryz.aiY
  obtain⟨vs,hs3,hrw⟩:=hrow.row.dP kF Tryz.abL Tryz.aco n (by omega)
  obtain⟨avs,aD,hvs,hcv,hcells⟩:∃ad c,vs=.slice (some ad) m c∧m≤c∧∀j u,(gcells jw (rs.drop n))[j]? =some u→w.cell? (ad.add j)=some u:=by
   rcases hrw with⟨h,h'⟩|⟨ad,c,h1,h2,_,h4⟩
   ·exfalso
    have:=hs3 w
    rw[hv,run_slice_l w 73 (some ⟨g,0,none⟩) L cap Tryz.abL .i64 _ (by omega) (by omega),Tryz.aco,h]at this
    simp[Result.andThen,sliced]at this
    split at this<;>simp at this
   ·exact⟨ad,c,by rw[h1,hdl],by omega,h4⟩
  have agN:w.ownsRow 0 132 4 (.slice (some ⟨g,0,none⟩) 0 cap) 0 []:=by
   have h1:w.ownsRow 0 132 4 wv L (gcells jw rs):=by rw[hL];exact hrow
   rw[hv]at h1
   simpa using ac2 h1 0 (by omega)
  have hrun:∃w1,(∀ty,(Builtin.append_ #[73,73] ty #[.slice (some ⟨g,0,none⟩) 0 cap,.slice (some avs) m aD]).run Tryz.prog w.drew=.ok (.slice (some ⟨g,0,none⟩) m cap) w1)∧w1.ownsRow 0 132 4 (.slice (some ⟨g,0,none⟩) m cap) m (gcells jw (rs.drop n))∧w.drew.grownBy w1 (some g):=by
   have key:=fun ty=>run_append_fits (P:=Tryz.prog) w.drew 0 73 ty 132 i 4 Tryz.underlying73 hi hsize g 0 cap [] agN avs m aD (gcells jw (rs.drop n)) (by rw[qp kF,hdl]) hcells (aeb _ fun r hr=>hsl r (List.mem_of_mem_drop hr)) (by omega)
   obtain⟨w1,h1,h2,h3⟩:=key 0
   rw[Nat.zero_add]at h1 h2
   exact⟨w1,fun ty=>h1,h2,h3⟩
  obtain⟨w1,hrun,bJ,gr1⟩:=hrun
  obtain⟨ao0,hg1,hs1⟩:∃cur,w1.heap[g]? =some (.cells cur 132 (0,0))∧cur.size=cap*4:=by
   rcases bJ.2 with⟨h,_⟩|⟨g',cap',cur,h,_,hg,_,_,hs,_⟩
   ·simp at h
   ·simp only[Value.slice.injEq,Option.some.injEq,Addr.mk.injEq,and_true,true_and]at h
    obtain⟨rfl,rfl⟩:=h
    exact⟨cur,hg,hs⟩
  have hzl:(Builtin.zeroCells (Value.agg #[.int .i64 0,.int .i64 0,.slice none 0 0,.int .i64 0]).cells n).toList.length=n*4:=by rw[xI];rfl
  obtain⟨w2,hw2⟩:∃w2,w2=w1.setCells g (m*4) (Builtin.zeroCells (Value.agg #[.int .i64 0,.int .i64 0,.slice none 0 0,.int .i64 0]).cells n).toList:=⟨_,rfl⟩
  have hcl:∀ty,(Builtin.clear_ #[73] ty #[.slice (some ⟨g,m*4,none⟩) n (cap-m)]).run Tryz.prog w1=.ok (.tuple #[]) w2:=fun ty=>by
   rw[hw2]
   exact uJ w1 _ _ ty _ Tryz.underlying73 Tryz.azM (xD n (by decide)) g (m*4) (cap-m) (by omega) (fun j hj=>by rw[hzl]at hj;rw[ai hg1 _ (Array.getElem?_eq_getElem (by omega:m*4+j<ao0.size))];rfl) (fun j _=>az hg1 _)
  have R:Hid (gG jw 4 132 0 w2 (.slice (some ⟨g,0,none⟩) m cap) (rs.drop n)):=hide (by
   unfold gG
   rw[hdl,hw2]
   exact xS bJ _ (Nat.le_refl _) _)
  have O:Hid (Out (fun b=>(Value.slice (some ⟨g,0,none⟩) L cap).ownBlock=some b) w w2):=hide (by
   rw[hw2]
   exact Out.aT (aO (aO (jX w 1 _) gr1) (nU g _ (m*4) w1)) fun b hb=>hb)
  obtain⟨x1,hsA⟩:∃x,∀wx,(Instr.slice 73 wv (some (.int .i64 0)) (some (.int .i64 n)) (some (.int .i64 L))).run Tryz.prog wx=.ok x wx:=by
   refine⟨sliced (some ⟨g,0,none⟩) 0 n L 4,fun wx=>?_⟩
   rw[hv,run_slice_lhm wx 73 (some ⟨g,0,none⟩) L cap Tryz.abL .i64 .i64 .i64 _ _ _ (by omega) (by omega) (by omega) (by omega),Tryz.aco]
   simp[Result.andThen]
  have hs2:∀wx,(Instr.slice 73 wv none (some (.int .i64 0)) none).run Tryz.prog wx=.ok (.slice (some ⟨g,0,none⟩) 0 cap) wx:=fun wx=>by
   rw[hv,run_slice_h wx 73 (some ⟨g,0,none⟩) L cap Tryz.abL .i64 _ (by omega) (by omega),Tryz.aco]
   simp[Result.andThen,sliced,Addr.add]
  have hlr:∀ty wx,(Builtin.len_ #[73] ty #[wv]).run Tryz.prog wx=.ok (.int .i64 L) wx:=fun ty wx=>by
   rw[hv]
   simp[Builtin.len_,run_underlying Tryz.underlying73,goInt]
  have zk:wv.ownBlock=some g:=by rw[hv];rfl
  rw[←hv]at O
  rw[hvs]at hs3
  have hmc:¬cap=m:=by omega
  have hmL:(m:Int)≤L:=by omega
  have hLc:(L:Int)≤cap:=by omega
  have sU:L-m=n:=by omega
  rw[←sU]at hcl
  have hne:((0:Int)==(n:Int))=false:=by simp;omega
  have HB:=hide zk
  have HR:=hide hrun
  clear hrun hw2 hzl hg1 hs1 bJ gr1 agN hrw hcells hcell azS hrow hsl hi hz hsize hby hvs hdl hL hm hv sU h0 hn hlen hcap hcm zk hcv
  go_enter Tryz.func151,Tryz.ntmps151
  go_wp2
  go_region_law (refine fB rfl (.tmp 22) (.tmp 25) 73 rfl (.slice (some ⟨g,0,none⟩) 0 cap) (.slice (some avs) m aD) (by first|rfl|(simp[Act.eval];done)) (by first|rfl|(simp[Act.eval];done)) (R:=fun v' w'=>v'=.slice (some ⟨g,0,none⟩) m cap∧w'=w1) (fun ty=>⟨_,_,HR.out ty,rfl,rfl⟩) ?_;rintro _ _ ⟨rfl,rfl⟩)
  all_goals (go_wp2;go_ret;exact⟨_,rfl,R.out,O.out,HB.out.symm⟩)
section
variable {p:Nat} {F G:Nat→Prop} {w w' w1 w2:World} {st st':Dm.Ds} {sure azy:Nat→List Int} {wait aky:List Dm.Rw} {s s':Nat→Value} {wv wv':Value} {rs rs':List Rv}
def sup (s:Nat→Value) (f:Nat) (v:Value):Nat→Value:=fun j=>if j=f then v else s j
theorem jm.files (h:jm w sure wait s wv rs){f:Nat}(hf:f<4){v:Value}{bs':List Int}(hown:Own .u8 5 0 w' v bs')(ho:Out (fun g=>(s f).ownBlock=some g) w w')(hat:∀b,v.ownBlock=some b→(s f).ownBlock=some b∨w.heap.size≤b):
  jm w' (Dm.upd sure f bs') wait (sup s f v) wv rs:=by
 have hlt:∀j,j<4→∀b,(s j).ownBlock=some b→b<w.heap.size:=fun j hj b hb=>((h.file j hj).block b hb).2
 have hrl:∀r∈rs,∀b,r.v.ownBlock=some b→b<w.heap.size:=fun r hr b hb=>by
  obtain⟨_,cs,fr,hc⟩:=(h.raw r hr).2 b hb
  exact aA hc
 have nv:∀j,j<4→j≠f→∀b,v.ownBlock=some b→(s j).ownBlock≠some b:=fun j hj hjf b hb e=>by
  rcases hat b hb with h1|h1
  ·exact h.apart f j hf hj (Ne.symm hjf) b h1 e
  ·have:=hlt j hj b e;omega
 refine⟨fun j hj=>?_,fun j k hj hk hjk b hb=>?_,?_,fun r hr=>?_,fun r hr j hj b hb=>?_,h.wait⟩
 ·by_cases e:j=f
  ·subst e;simp only[sup,Dm.upd,if_true];exact hown
  ·simp only[sup,Dm.upd,if_neg e]
   exact(h.file j hj).agree fun b hb=>ho.block b (hlt j hj b hb) fun h1=>h.apart j f hj hf e b hb h1
 ·unfold sup at hb⊢
  by_cases e:j=f
  ·rw[if_pos e]at hb
   rw[if_neg (fun h1=>hjk (e.trans h1.symm))]
   exact nv k hk (fun h1=>hjk (e.trans h1.symm)) b hb
  ·rw[if_neg e]at hb
   by_cases e2:k=f
   ·rw[if_pos e2]
    exact fun h1=>nv j hj e b h1 hb
   ·rw[if_neg e2]
    exact h.apart j k hj hk hjk b hb
 ·refine h.row.agree fun b hb=>ho.block b (h.row.lt b hb).2 fun h1=>?_
  obtain⟨cs,hc⟩:=h.row.type hb
  obtain⟨cs',hc'⟩:=(h.file f hf).type h1
  rw[hc]at hc'
  simp at hc'
 ·exact(h.raw r hr).agree fun b hb=>ho.block b (hrl r hr b hb) fun h1=>h.aa1 r hr f hf b hb h1
 ·unfold sup
  by_cases e:j=f
  ·rw[if_pos e]
   intro h1
   rcases hat b h1 with h2|h2
   ·exact h.aa1 r hr f hf b hb h2
   ·have:=hrl r hr b hb;omega
  ·rw[if_neg e]
   exact h.aa1 r hr j hj b hb
theorem FB.files {f:Nat}(hf:f<4){v:Value}(hat:∀b,v.ownBlock=some b→(s f).ownBlock=some b∨w.heap.size≤b):∀g,FB p (sup s f v) wv rs g→FB p s wv rs g∨w.heap.size≤g:=by
 rintro g (h|⟨j,hj,h⟩|h|h)
 ·exact .inl (.inl h)
 ·unfold sup at h
  by_cases e:j=f
  ·rw[if_pos e]at h
   rcases hat g h with h1|h1
   ·exact .inl (.inr (.inl ⟨f,hf,h1⟩))
   ·exact .inr h1
  ·rw[if_neg e]at h
   exact .inl (.inr (.inl ⟨j,hj,h⟩))
 ·exact .inl (.inr (.inr (.inl h)))
 ·exact .inl (.inr (.inr (.inr h)))
theorem jm.rows (h:jm w sure wait s wv rs)(hrow:gG jw 4 132 0 w' wv' rs')(ho:Out (fun g=>wv.ownBlock=some g) w w')
  (hraw:∀r∈rs',yZ (fun _=>True) w r.v r.bytes∧∀f,f<4→∀b,r.v.ownBlock=some b→(s f).ownBlock≠some b) (hw:rs'.map Rv.r=aky):jm w' sure aky s wv' rs':=by
 refine⟨fun j hj=>?_,h.apart,hrow,fun r hr=>?_,fun r hr=>(hraw r hr).2,hw⟩
 ·refine(h.file j hj).agree fun b hb=>ho.block b ((h.file j hj).block b hb).2 fun h1=>?_
  obtain⟨cs,hc⟩:=h.row.type h1
  obtain⟨cs',hc'⟩:=(h.file j hj).type hb
  rw[hc]at hc'
  simp at hc'
 ·refine(hraw r hr).1.agree fun b hb=>?_
  obtain⟨_,cs,fr,hc⟩:=(hraw r hr).1.2 b hb
  refine ho.block b (aA hc) fun h1=>?_
  obtain⟨cs',hc'⟩:=h.row.type h1
  rw[hc]at hc'
  simp at hc'
end
end Go.Proofs.YtpifdeoepppadaaGreatDoor
namespace Go.Proofs.YtpifdeoepppadaaGreatDoor
open Go.RowKit Go.Shelf
set_option linter.unusedVariables false
theorem abO (s:Nat→Value)(wv:Value)(on:Bool)(pR count:Int)(f:Nat)(hf:f<4)(v:Value):(eZ s wv on pR count).setIfInBounds (3+f) v=eZ (sup s f v) wv on pR count:=by
 rcases(show f=0∨f=1∨f=2∨f=3 by omega)with rfl|rfl|rfl|rfl<;>simp[eZ,sup]
theorem apC {l:List Dm.Rw}{k:Nat}{r:Dm.Rw}(h:l[k]? =some r)(s:Nat→List Int):Dm.dof s (l.take (k+1))=Dm.one (Dm.dof s (l.take k)) r:=by rw[wY h,Dm.arN]
theorem zS (s:Nat→List Int)(l:List Dm.Rw)(f:Nat):(Dm.dof s l f).length≤(s f).length+Dm.bulk l:=by
 rw[←Dm.eX]
 exact Dm.kD l (s f) f
theorem gG.jW {P:Program}{α:Type}{c:α→List Value}{k e base:Nat}{w:World}{l:List α}{ao:Option Addr}{cap:Nat}(h:gG c k e base w (.slice ao l.length cap) l){t:TypeId}(ht:P.underlying t=some (.slice (P.elem t)))(hs:∀wx,(sizeOf (P.elem t)).run P wx=.ok k wx)(n:Nat)(hn:n≤l.length):
  ∀wx,(Instr.slice t (.slice ao l.length cap) none (some (.int .i64 n)) none).run P wx=.ok (.slice ao n cap) wx:=by
 intro wx
 rcases h.2 with⟨hv,hz⟩|⟨g,cap',cur,hv,_,_,hc,_⟩
 ·simp only[Value.slice.injEq]at hv
  obtain⟨rfl,_,rfl⟩:=hv
  rw[run_slice_h wx t none l.length 0 ht .i64 _ (by omega) (by omega),hs]
  simp[Result.andThen,sliced]
 ·simp only[Value.slice.injEq,true_and]at hv
  obtain⟨rfl,rfl⟩:=hv
  rw[run_slice_h wx t _ l.length cap ht .i64 _ (by omega) (by omega),hs]
  simp[Result.andThen,sliced,Addr.add]
def adG (p:Nat) (w:World) (st:Dm.Ds) (s:Nat→Value) (wv:Value) (rs:List Rv) (k:Nat) (wr:World):Prop:=
 ∃s',wr.heap[p]? =some (.cells (eZ s' wv st.on (dQ st) st.count) 75 (0,0))∧jm wr (Dm.dof st.sure (st.wait.take k)) st.wait s' wv rs∧Out (FB p s wv rs) w wr∧∀g,FB p s' wv rs g→FB p s wv rs g∨w.heap.size≤g
theorem adG.next {p:Nat}{w:World}{st:Dm.Ds}{s s':Nat→Value}{wv:Value}{rs:List Rv}{k:Nat}{wr w2:World}{r:Rv}{v:Value}
  (hB:wr.heap[p]? =some (.cells (eZ s' wv st.on (dQ st) st.count) 75 (0,0))) (hC:jm wr (Dm.dof st.sure (st.wait.take k)) st.wait s' wv rs) (hO:Out (FB p s wv rs) w wr) (hF:∀g,FB p s' wv rs g→FB p s wv rs g∨w.heap.size≤g)
  (hk:st.wait[k]? =some r.r) (hf:r.file<4) (ho:Out (fun g=>(s' r.file).ownBlock=some g) wr w2) (hown:Own .u8 5 0 w2 v (Dm.iC (Dm.dof st.sure (st.wait.take k) r.file) r.r)) (hat:∀b,v.ownBlock=some b→(s' r.file).ownBlock=some b∨wr.heap.size≤b):
  adG p w st s wv rs (k+1) (w2.setCell ⟨p,3+r.file,none⟩ v):=by
 have hB2:w2.heap[p]? =some (.cells (eZ s' wv st.on (dQ st) st.count) 75 (0,0)):=(ho.block p (aA hB) fun h=>(hC.ne hB (by decide) (by decide)).1 r.file hf p h rfl).trans hB
 have hC2:=hC.files hf hown ho hat
 refine⟨sup s' r.file v,by rw[aL hB2,abO _ _ _ _ _ _ hf],?_,?_,fun g hg=>?_⟩
 ·have e:Dm.dof st.sure (st.wait.take (k+1))=Dm.upd (Dm.dof st.sure (st.wait.take k)) r.file (Dm.iC (Dm.dof st.sure (st.wait.take k) r.file) r.r):=by rw[apC hk];rfl
  rw[e]
  exact hC2.but hB2 (by decide) (by decide) fun b hb _=>Below.heap_setCell _ _ _ _ hb
 ·have h1:Out (FB p s wv rs) w w2:=hO.trans ho fun g hg=>hF g (.inr (.inl ⟨_,hf,hg⟩))
  exact h1.trans (Out.aT (F:=fun g=>g=p) (aC w2 ⟨p,3+r.file,none⟩ v) fun g hg=>by simp at hg;exact hg.symm) fun g hg=>.inl (.inl hg)
 ·rcases FB.files hf hat g hg with h1|h1
  ·exact hF g h1
  ·exact .inr (Nat.le_trans hO.size h1)
theorem Tryz.aeG:∀args w,(callFunc 150 args).run Tryz.prog w=.ok (.enter 150 args) w:=enters_of Tryz.func150 (by kernel_rfl) rfl
theorem abV (p:Nat)(F:Nat→Prop)(w:World)(st:Dm.Ds)(n:Nat)(h:Pk p F w st)(hn:n≤st.wait.length)(hsz:∀f,(st.sure f).length+Dm.bulk st.wait≤140737488355000)(hw:st.wait.length≤1000000):
  Calls Tryz.prog 96 #[.pointer (some ⟨p,0,none⟩),.int .i64 n] w fun E w'=>(∃v,E=.returned v)∧aP p F w w' {st with sure:=Dm.dof st.sure (st.wait.take n),wait:=st.wait.drop n}:=by
 obtain⟨s,wv,rs,h,rfl⟩:=h
 have hlr:=h.fP.len
 have c7:=h.c7
 obtain⟨ao,cap,hv,hcap,hcm⟩:=h.fP.row.row.shape
 have hsl:∀wx,(Instr.slice 73 wv none (some (.int .i64 n)) none).run Tryz.prog wx=.ok (.slice ao n cap) wx:=by
  have:=h.fP.row
  rw[hv]at this⊢
  exact this.jW Tryz.abL Tryz.aco n (by omega)
 have hao:0<rs.length→∃b,ao=some ⟨b,0,none⟩∧wv.ownBlock=some b:=by
  intro h0
  rcases h.fP.row.2 with⟨_,h1⟩|⟨g,cap',cur,h1,_⟩
  ·omega
  ·rw[hv]at h1
   simp only[Value.slice.injEq,true_and]at h1
   exact⟨g,h1.1,by rw[hv,h1.1];rfl⟩
 have H:=hide h
 have HAO:=hide hao
 have HLR:=hide hlr
 have hnL:n≤rs.length:=by omega
 have I0:Hid (adG p w st s wv rs 0 w):=hide ⟨s,h.blk,by simpa[Dm.dof]using h.fP,Out.refl _ _,fun g hg=>.inl hg⟩
 clear h hao hlr hv
 go_enter Tryz.func96,Tryz.ntmps96
 go_wp2
 go_loopw [13] (fun iv wr=>∃k:Nat,k≤n∧iv=.int .i64 k∧Hid (adG p w st s wv rs k wr)) (fun iv _=>n-(intOf iv).toNat)
 case atStart=>exact⟨0,by omega,rfl,I0⟩
 case round=>
  obtain⟨k,hk,rfl,I⟩:=hrel
  obtain⟨s',hB,hC,hO,hF⟩:=I.out
  have HO:=hide hO
  have HF:=hide hF
  have HBp:=hide hB
  by_cases hlt:k<n
  ·obtain⟨g,rfl,hg⟩:=HAO.out (by omega)
   obtain⟨r,hr⟩:∃r,rs[k]? =some r:=⟨rs[k],by rw[List.getElem?_eq_getElem]⟩
   have hcell:=fun j u hj=>hC.row.cells hg (k*4+j) u (pM kF rs k r hr j u hj)
   have e0:wr.cell? ⟨g,k*4,none⟩=some (.int .i64 (jq r)):=by have:=hcell 0 _ rfl;rwa[fD,Nat.zero_add]at this
   have e1:wr.cell? ⟨g,k*4+1,none⟩=some (.int .i64 r.file):=by have:=hcell 1 _ rfl;rwa[fD,Nat.zero_add]at this
   have e2:wr.cell? ⟨g,k*4+2,none⟩=some r.v:=by have:=hcell 2 _ rfl;rwa[fD,Nat.zero_add]at this
   have e3:wr.cell? ⟨g,k*4+3,none⟩=some (.int .i64 r.to):=by have:=hcell 3 _ rfl;rwa[fD,Nat.zero_add]at this
   obtain⟨V,hV,hV2,fE,bn,bV,x0,x1,x2,x3⟩:=aa5 wr 132 (.int .i64 0) (.int .i64 0) (.slice none 0 0) (.int .i64 0) (.int .i64 (jq r)) (.int .i64 r.file) r.v (.int .i64 r.to)
   have hst:st.wait[k]? =some r.r:=by rw[←H.out.fP.wait,List.getElem?_map,hr];rfl
   have hfit:=Dm.aa3 H.out.ok hst
   have hf:r.file<4:=hfit.1
   have hbl:=ado hst
   have hdl:=zS st.sure (st.wait.take k) r.file
   have agn:=hsz r.file
   obtain⟨ar,cr,kS,_,_⟩:=(hC.raw r (List.mem_of_getElem? hr)).1.shape
   have ir:=((hC.raw r (List.mem_of_getElem? hr)).1).below bn
   have cfv:V.cell? ⟨p,3+r.file,none⟩=some (s' r.file):=(bn.cell (p:=⟨p,3+r.file,none⟩) (aA hB)).trans (ako (cs:=#[]) hB r.file hf)
   obtain⟨af,nf,cpf,hsf⟩:=(hC.file r.file hf).is.form
   have hne:∀b,(s' r.file).ownBlock=some b→b<wr.heap.size:=fun b hb=>((hC.file r.file hf).block b hb).2
   have BI:Hid (Calls Tryz.prog 150 #[.agg #[.int .i64 (jq r),.int .i64 r.file,r.v,.int .i64 r.to],s' r.file] V.drew fun E w2=>∃v2,E=.returned v2∧(adG p w st s wv rs (k+1) (w2.setCell ⟨p,3+r.file,none⟩ v2)∧(w2.cell? ⟨wr.heap.size,0,none⟩=some (.int .i64 (jq r))∧w2.cell? ⟨wr.heap.size,1,none⟩=some (.int .i64 r.file)∧w2.cell? ⟨wr.heap.size,2,none⟩=some r.v∧w2.cell? ⟨wr.heap.size,3,none⟩=some (.int .i64 r.to))∧w2.cell? ⟨p,3+r.file,none⟩=some (s' r.file)∧w2.frozen? ⟨p,3+r.file,none⟩=false∧∃a n c,v2=.slice a n c)):=hide (by
    refine(wC 0 (s' r.file) _ r V.drew (((hC.file r.file hf).below bn).drewN 1) (Nat.zero_le _) (ir.drewN 1) (fun hc=>hfit.2.1 hc) (by have:r.r.bytes=r.bytes:=rfl;rw[this]at hbl;omega)).mono ?_
    rintro E w2 ⟨v2,rfl,bq,yD,at2⟩
    have zM:Out (fun g=>(s' r.file).ownBlock=some g) wr w2:=(Out.of_below (F:=fun g=>(s' r.file).ownBlock=some g) ((bn).trans (below_drewN (Below.refl _ _) 1))).trans yD fun g hg=>.inl hg
    have hb2:w2.heap[wr.heap.size]? =some (.cells #[.int .i64 (jq r),.int .i64 r.file,r.v,.int .i64 r.to] 132 (0,0)):=(yD.block wr.heap.size (show wr.heap.size<V.heap.size by omega) fun h=>by have:=hne _ h;omega).trans bV
    have hp2:w2.heap[p]? =some (.cells (eZ s' wv st.on (dQ st) st.count) 75 (0,0)):=(zM.block p (aA hB) fun h=>(hC.ne hB (by decide) (by decide)).1 r.file hf p h rfl).trans hB
    refine⟨v2,rfl,adG.next hB hC HO.out HF.out hst hf zM bq (fun b hb=>?_),⟨ai hb2 0 rfl,ai hb2 1 rfl,ai hb2 2 rfl,ai hb2 3 rfl⟩,ako (cs:=#[]) hp2 r.file hf,az hp2 _,bq.is.form⟩
    rcases at2 b hb with h1|h1
    ·exact .inl h1
    ·exact .inr (by have h2:V.drew.heap.size=V.heap.size:=rfl;omega))
   have hlt':(k:Int)<n:=by omega
   have hk0:(0:Int)≤(k:Int):=by omega
   have hf0:(0:Int)≤(r.file:Int):=by omega
   have hf4:(r.file:Int)<4:=by omega
   have hp:p<wr.heap.size:=aA hB
   rw[kS]at e2 hV hV2 x2 BI
   rw[hsf]at cfv BI
   clear hcell hr hst hfit hbl hdl agn ir hne hC hO hF hB bV I kS hsf hg
   go_wp2_with fail
   go_region_law (refine qH rfl 150 #[.tmp 20,.tmp 27] #[132,71] rfl Tryz.aeG #[.agg #[.int .i64 (jq r),.int .i64 r.file,.slice ar r.bytes.length cr,.int .i64 r.to],.slice af nf cpf] (by first|rfl|(simp[Act.eval];done)) BI.out ?_;rintro v2 w2 ⟨J,⟨y0,y1,y2,y3⟩,cp2,fp2,a2,n2,c2,rfl⟩;have J:=hide J)
   all_goals
    go_wp2
    go_roundw
    case rel=>exact⟨k+1,by omega,by go_num,J⟩
    case measure=>simp[intOf];omega
  ·obtain rfl:k=n:=by omega
   have c7r:wr.cell? ⟨p,7,none⟩=some wv:=ai hB 7 rfl
   have hlt':¬(k:Int)<k:=by omega
   have DI:Hid (Calls Tryz.prog 151 #[wv,.int .i64 0,.int .i64 k] wr fun E w4=>∃v4,E=.returned v4∧(aP p (FB p s wv rs) w (w4.setCell ⟨p,7,none⟩ v4) {st with sure:=Dm.dof st.sure (st.wait.take k),wait:=st.wait.drop k}∧w4.cell? ⟨p,7,none⟩=some wv∧w4.frozen? ⟨p,7,none⟩=false∧∃a n c,v4=.slice a n c)):=hide (by
    refine(ava wr wv rs k hC.row (fun r hr=>(hC.raw r hr).1.form) hnL (by have:=HLR.out;omega)).mono ?_
    rintro E w4 ⟨v4,rfl,adB,ap3,ob4⟩
    have hC4:jm w4 (Dm.dof st.sure (st.wait.take k)) (st.wait.drop k) s' v4 (rs.drop k):=hC.rows adB ap3 (fun r hr=>⟨hC.raw r (List.mem_of_mem_drop hr),hC.aa1 r (List.mem_of_mem_drop hr)⟩) (by rw[←hC.wait,List.map_drop])
    have mY:w4.heap[p]? =some (.cells (eZ s' wv st.on (dQ st) st.count) 75 (0,0)):=(ap3.block p (aA hB) fun h=>(hC.ne hB (by decide) (by decide)).2.1 p h rfl).trans hB
    have hok:Dm.valid (Dm.dof st.sure (st.wait.take k)) (st.wait.drop k):=by
     have:=H.out.ok
     unfold Dm.Ok at this
     rw[←List.take_append_drop k st.wait,Dm.tK]at this
     exact this.2
    obtain⟨R1,R2⟩:=fM.put (st':={st with sure:=Dm.dof st.sure (st.wait.take k),wait:=st.wait.drop k}) (s':=s') (wv':=v4) (rs':=rs.drop k) mY 7 v4 rfl hC4 hok
    refine⟨v4,rfl,⟨_,⟨s',v4,rs.drop k,R1,rfl⟩,?_,?_⟩,ai mY 7 rfl,az mY 7,?_⟩
    ·have h1:Out (FB p s wv rs) w w4:=hO.trans ap3 fun g hg=>hF g (.inr (.inr (.inl hg)))
     exact h1.trans R2 fun g hg=>.inl (.inl hg)
    ·rintro g (h1|h1|h1|⟨r,hr,h1⟩)
     ·exact hF g (.inl h1)
     ·exact hF g (.inr (.inl h1))
     ·exact hF g (.inr (.inr (.inl (by rw[←ob4];exact h1))))
     ·exact hF g (.inr (.inr (.inr ⟨r,List.mem_of_mem_drop hr,h1⟩)))
    ·obtain⟨a,c,hv,_⟩:=adB.row.shape
     exact⟨a,_,c,hv⟩)
   clear hC hO hF hB I HO HF HBp
   go_wp2_with fail
   refine DI.out.mono ?_
   rintro E w4 ⟨v4,rfl,J,c4,f4,a4,n4,k4,rfl⟩
   have J:=hide J
   go_wp2
   go_end0
   exact⟨⟨_,rfl⟩,J.out⟩
end Go.Proofs.YtpifdeoepppadaaGreatDoor
namespace Go.Proofs.YtpifdeoepppadaaGreatDoor
open Go.RowKit Go.Shelf
set_option linter.unusedVariables false
def Mid (p:Nat) (F:Nat→Prop) (w:World) (st:Dm.Ds) (wr:World):Prop:=
 ∃s wv rs,wr.heap[p]? =some (.cells (eZ s wv st.on (dQ st) st.count) 75 (0,0))∧jm wr st.sure st.wait s wv rs∧Out F w wr∧∀g,FB p s wv rs g→F g∨w.heap.size≤g
def torn (st:Dm.Ds) (t:Nat):Nat→List Int:=
 match st.wait[0]? with
 |some r=>if r.cut then st.sure else Dm.one st.sure ⟨r.file,false,0,r.bytes.take (min t (r.bytes.length-1))⟩
 |none=>st.sure
theorem Mid.of {p:Nat}{F:Nat→Prop}{w:World}{st:Dm.Ds}(h:Pk p F w st):Mid p F w st w:=by
 obtain⟨s,wv,rs,h,rfl⟩:=h
 exact⟨s,wv,rs,h.blk,h.fP,Out.refl _ _,fun g hg=>.inl hg⟩
theorem aoR (p:Nat)(F:Nat→Prop)(w:World)(st:Dm.Ds)(t:Nat)(h:Pk p F w st)(ht:t≤9223372036854775807)(hsz:∀f,(st.sure f).length+Dm.bulk st.wait≤140737488355000)(hw:st.wait.length≤1000000):
  Calls Tryz.prog 97 #[.pointer (some ⟨p,0,none⟩),.int .i64 t] w fun E w'=>(∃v,E=.returned v)∧Mid p F w {st with sure:=torn st t} w':=by
 have M0:=hide (Mid.of h)
 obtain⟨s,wv,rs,h,rfl⟩:=h
 have hlr:=h.fP.len
 have c7:=h.c7
 obtain⟨ao,cap,hv,hcap,hcm⟩:=h.fP.row.row.shape
 cases hrs:rs with
 |nil=>
  subst hrs
  have e:torn st t=st.sure:=by
   have:st.wait=[]:=List.eq_nil_of_length_eq_zero (by simpa using hlr)
   simp[torn,this]
  rw[e]
  rw[hv]at c7
  clear h hlr hv e
  go_enter Tryz.func97,Tryz.ntmps97
  go_wp2
  refine bodyPost_ret (results_none rfl _ _ _) rfl ?_
  exact⟨⟨_,rfl⟩,M0.out⟩
 |cons r rl=>
  have hr:rs[0]? =some r:=by rw[hrs];rfl
  have hpos:0<rs.length:=by rw[hrs];simp
  have hst:st.wait[0]? =some r.r:=by rw[←h.fP.wait,List.getElem?_map,hr];rfl
  rw[←hrs]
  obtain⟨g,hao,hg⟩:∃b,ao=some ⟨b,0,none⟩∧wv.ownBlock=some b:=by
   rcases h.fP.row.2 with⟨_,h1⟩|⟨g,cap',cur,h1,_⟩
   ·omega
   ·rw[hv]at h1
    simp only[Value.slice.injEq,true_and]at h1
    exact⟨g,h1.1,by rw[hv,h1.1];rfl⟩
  subst hao
  have hcell:=fun j u hj=>h.fP.row.cells hg (0*4+j) u (pM kF rs 0 r hr j u hj)
  have e0:w.cell? ⟨g,0,none⟩=some (.int .i64 (jq r)):=by have:=hcell 0 _ rfl;rwa[fD]at this
  have e1:w.cell? ⟨g,1,none⟩=some (.int .i64 r.file):=by have:=hcell 1 _ rfl;rwa[fD]at this
  have e2:w.cell? ⟨g,2,none⟩=some r.v:=by have:=hcell 2 _ rfl;rwa[fD]at this
  have e3:w.cell? ⟨g,3,none⟩=some (.int .i64 r.to):=by have:=hcell 3 _ rfl;rwa[fD]at this
  have hL:((rs.length:Int)==0)=false:=beq_eq_false_iff_ne.2 (by omega)
  have hpos':(0:Int)<rs.length:=by omega
  rw[hv]at c7
  cases hc:r.cut
  ·have hk:jq r=0:=by simp[jq,hc]
   rw[hk]at e0
   have hfit:=Dm.aa3 h.ok hst
   have hf:r.file<4:=hfit.1
   have hbn:1≤r.bytes.length:=(hfit.2.2 hc).1
   have hbn2:r.bytes.length≤64:=(hfit.2.2 hc).2
   have aA7:Dm.dof st.sure (st.wait.take 0)=st.sure:=by simp[Dm.dof]
   obtain⟨q,hq⟩:∃q,q=min t (r.bytes.length-1):=⟨_,rfl⟩
   have hql:q≤r.bytes.length:=by omega
   have isr:=(h.fP.raw r (List.mem_of_getElem? hr)).1
   obtain⟨b,off,cr,kS,hcr,hcrm,hbw,_⟩:=isr.full (by omega)
   obtain⟨V,hV,hV2,fE,bn,bV,x0,x1,x2,x3⟩:=aa5 w 132 (.int .i64 0) (.int .i64 0) (.slice none 0 0) (.int .i64 0) (.int .i64 0) (.int .i64 r.file) (.slice (some ⟨b,off,none⟩) r.bytes.length cr) (.int .i64 r.to)
   have isq:Is .u8 w (.slice (some ⟨b,off,none⟩) q cr) (r.bytes.take q):=by
    rw[kS]at isr
    exact isr.cut q hql
   obtain⟨V2,hV3⟩:∃V2,V.setCell ⟨w.heap.size,2,none⟩ (.slice (some ⟨b,off,none⟩) q cr)=V2:=⟨_,rfl⟩
   have bV2:V2.heap[w.heap.size]? =some (.cells #[.int .i64 0,.int .i64 r.file,.slice (some ⟨b,off,none⟩) q cr,.int .i64 r.to] 132 (0,0)):=by rw[←hV3,aL bV];rfl
   have afC:Below w.heap.size w V2:=by rw[←hV3];exact bn.grown (aC V ⟨w.heap.size,2,none⟩ _) (by omega) fun k hk=>by simp at hk;omega
   have szV2:V2.heap.size=w.heap.size+1:=by rw[←hV3];simp[World.setCell,fE]
   have z0:V2.cell? ⟨w.heap.size,0,none⟩=some (.int .i64 0):=ai bV2 0 rfl
   have z1:V2.cell? ⟨w.heap.size,1,none⟩=some (.int .i64 r.file):=ai bV2 1 rfl
   have z2:V2.cell? ⟨w.heap.size,2,none⟩=some (.slice (some ⟨b,off,none⟩) q cr):=ai bV2 2 rfl
   have z3:V2.cell? ⟨w.heap.size,3,none⟩=some (.int .i64 r.to):=ai bV2 3 rfl
   have fz2:V.frozen? ⟨w.heap.size,2,none⟩=false:=az bV 2
   have cfv:V2.cell? ⟨p,3+r.file,none⟩=some (s r.file):=(afC.cell (p:=⟨p,3+r.file,none⟩) (aA h.blk)).trans (h.cf r.file hf)
   obtain⟨af,nf,cpf,hsf⟩:=(h.fP.file r.file hf).is.form
   have hne:∀b,(s r.file).ownBlock=some b→b<w.heap.size:=fun b hb=>((h.fP.file r.file hf).block b hb).2
   have agn:=hsz r.file
   have et:torn st t=Dm.upd st.sure r.file (st.sure r.file++r.bytes.take q):=by
    simp[torn,hst,Rv.r,hc,Dm.one,Dm.iC,hq]
   have BI:Hid (Calls Tryz.prog 150 #[.agg #[.int .i64 0,.int .i64 r.file,.slice (some ⟨b,off,none⟩) q cr,.int .i64 r.to],s r.file] V2.drew fun E w2=>∃v2,E=.returned v2∧(Mid p (FB p s wv rs) w {st with sure:=torn st t} (w2.setCell ⟨p,3+r.file,none⟩ v2)∧(w2.cell? ⟨w.heap.size,0,none⟩=some (.int .i64 0)∧w2.cell? ⟨w.heap.size,1,none⟩=some (.int .i64 r.file)∧w2.cell? ⟨w.heap.size,2,none⟩=some (.slice (some ⟨b,off,none⟩) q cr)∧w2.cell? ⟨w.heap.size,3,none⟩=some (.int .i64 r.to))∧w2.cell? ⟨p,3+r.file,none⟩=some (s r.file)∧w2.frozen? ⟨p,3+r.file,none⟩=false∧∃a n c,v2=.slice a n c)):=hide (by
    refine(wC 0 (s r.file) _ ⟨r.file,false,r.to,.slice (some ⟨b,off,none⟩) q cr,r.bytes.take q⟩ V2.drew (((h.fP.file r.file hf).below afC).drewN 1) (Nat.zero_le _) ((isq.below afC).drewN 1) (fun hc=>by simp at hc) (by simp only[List.length_take];omega)).mono ?_
    rintro E w2 ⟨v2,rfl,bq,yD,at2⟩
    have zM:Out (fun g=>(s r.file).ownBlock=some g) w w2:=(Out.of_below (F:=fun g=>(s r.file).ownBlock=some g) (afC.trans (below_drewN (Below.refl _ _) 1))).trans yD fun g hg=>.inl hg
    have hb2:w2.heap[w.heap.size]? =some (.cells #[.int .i64 0,.int .i64 r.file,.slice (some ⟨b,off,none⟩) q cr,.int .i64 r.to] 132 (0,0)):=(yD.block w.heap.size (show w.heap.size<V2.heap.size by omega) fun h=>by have:=hne _ h;omega).trans bV2
    have hnp:∀b,(s r.file).ownBlock=some b→b≠p:=(h.fP.ne h.blk (by decide) (by decide)).1 r.file hf
    have hp2:w2.heap[p]? =some (.cells (eZ s wv st.on (dQ st) st.count) 75 (0,0)):=(zM.block p (aA h.blk) fun h=>hnp p h rfl).trans h.blk
    have hat:∀b,v2.ownBlock=some b→(s r.file).ownBlock=some b∨w.heap.size≤b:=fun b hb=>by
     rcases at2 b hb with h1|h1
     ·exact .inl h1
     ·exact .inr (by have h2:V2.drew.heap.size=V2.heap.size:=rfl;omega)
    have hC2:=h.fP.files hf bq zM hat
    have e5:Dm.upd st.sure r.file (Dm.iC (st.sure r.file) (Rv.r ⟨r.file,false,r.to,.slice (some ⟨b,off,none⟩) q cr,r.bytes.take q⟩))=torn st t:=by rw[et];rfl
    rw[e5]at hC2
    refine⟨v2,rfl,⟨sup s r.file v2,wv,rs,by rw[aL hp2,abO _ _ _ _ _ _ hf];rfl,hC2.but hp2 (by decide) (by decide) fun b hb _=>Below.heap_setCell _ _ _ _ hb,?_,FB.files hf hat⟩,⟨ai hb2 0 rfl,ai hb2 1 rfl,ai hb2 2 rfl,ai hb2 3 rfl⟩,ako (cs:=#[]) hp2 r.file hf,az hp2 _,bq.is.form⟩
    have h1:Out (FB p s wv rs) w w2:=zM.mono fun g hg=>.inl (.inr (.inl ⟨_,hf,hg⟩))
    exact h1.trans (Out.aT (F:=fun g=>g=p) (aC w2 ⟨p,3+r.file,none⟩ v2) fun g hg=>by simp at hg;exact hg.symm) fun g hg=>.inl (.inl hg))
   have hf0:(0:Int)≤(r.file:Int):=by omega
   have hf4:(r.file:Int)<4:=by omega
   have hcr0:¬cr=0:=by omega
   have hwr:IntKind.i64.wrap ((r.bytes.length:Int)-1)=(r.bytes.length:Int)-1:=jU _ (by omega) (by omega)
   have hmin:(if (r.bytes.length:Int)-1<(t:Int)then(r.bytes.length:Int)-1 else(t:Int))=(q:Int):=by split<;>omega
   have hq0:(0:Int)≤(q:Int):=by omega
   have hqc:(q:Int)≤cr:=by omega
   rw[hsf]at cfv BI
   rw[kS]at e2
   clear hcell hr hst hfit agn isr isq hne h hsf hg et bV bV2 kS hk aA7 hq hlr hv hrs
   go_enter Tryz.func97,Tryz.ntmps97
   go_wp2_with fail
   go_region_law (refine qH rfl 150 #[.tmp 40,.tmp 47] #[132,71] rfl Tryz.aeG #[.agg #[.int .i64 0,.int .i64 r.file,.slice (some ⟨b,off,none⟩) q cr,.int .i64 r.to],.slice af nf cpf] (by first|rfl|(simp[Act.eval];done)) BI.out ?_;rintro v2 w2 ⟨J,⟨y0,y1,y2,y3⟩,cp2,fp2,a2,n2,c2,rfl⟩;have J:=hide J)
   all_goals
    go_wp2
    go_end0
    exact⟨⟨_,rfl⟩,J.out⟩
  ·have hk:jq r=1:=by simp[jq,hc]
   rw[hk]at e0
   have e:torn st t=st.sure:=by simp[torn,hst,Rv.r,hc]
   rw[e]
   clear h hlr hv e hk hcell hr hst hrs
   go_enter Tryz.func97,Tryz.ntmps97
   go_wp2
   refine bodyPost_ret (results_none rfl _ _ _) rfl ?_
   exact⟨⟨_,rfl⟩,M0.out⟩
end Go.Proofs.YtpifdeoepppadaaGreatDoor
