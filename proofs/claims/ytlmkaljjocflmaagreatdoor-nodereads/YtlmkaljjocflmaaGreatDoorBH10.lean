/- Texts. -/
import Derived.Test.YtlmkaljjocflmaaGreatDoorBH1
import Derived.Test.YtlmkaljjocflmaaGreatDoorBH6
import Derived.Deep.RegionHeld3
import Derived.Shelf.Abstract
set_option maxRecDepth 100000
set_option maxHeartbeats 8000000
set_option linter.unusedVariables false
open Go.Proofs.Tryz
namespace Go.Proofs.YtlmkaljjocflmaaGreatDoor
open Go.RowKit
theorem mU (g:Nat):∀(vs:List Value) (o:Nat) (w:World),w.grownBy (w.setCells g o vs) (some g)
 |[],_,w=>World.grownBy.refl _ _
 |v::r,o,w=>aH (ax w ⟨g,o,none⟩ v) (mU g r (o+1) _)
theorem tH {g:Nat}{t:TypeId}{fr:Nat×Nat}:∀(vs:List Value) (o:Nat) (w:World) (cur:Array Value),w.heap[g]? =some (.cells cur t fr)→∃cur',(w.setCells g o vs).heap[g]? =some (.cells cur' t fr)∧cur'.size=cur.size∧∀j,j<o→cur'[j]? =cur[j]?
 |[],_,w,cur,h=>⟨cur,h,rfl,fun _ _=>rfl⟩
 |v::r,o,w,cur,h=>by
  obtain⟨cur',h1,h2,h3⟩:=tH r (o+1) (w.setCell ⟨g,o,none⟩ v) _ (aF h o v)
  refine⟨cur',h1,by rw[h2];simp,fun j hj=>?_⟩
  rw[h3 j (by omega),Array.getElem?_setIfInBounds,if_neg (by omega)]
theorem yg {w:World}{base e size g n cap:Nat}{xs:List Value}(h:w.ownsRow base e size (.slice (some ⟨g,0,none⟩) n cap) n xs)(o:Nat)(ho:n*size≤o)(vs:List Value):(w.setCells g o vs).ownsRow base e size (.slice (some ⟨g,0,none⟩) n cap) n xs:=by
 refine⟨h.1,?_⟩
 rcases h.2 with⟨h',_⟩|⟨g',cap',cur,h',hb,hg,hnc,hcm,hcs,htake⟩
 ·simp at h'
 ·simp only[Value.slice.injEq,Option.some.injEq,Addr.mk.injEq,and_true,true_and]at h'
  obtain⟨rfl,rfl⟩:=h'
  obtain⟨cur',h1,h2,h3⟩:=tH vs o w cur hg
  refine .inr ⟨g,cap,cur',rfl,hb,h1,hnc,hcm,by rw[h2,hcs],?_⟩
  rw[←htake]
  apply List.ext_getElem?
  intro i
  rw[List.getElem?_take,List.getElem?_take]
  split
  ·rw[Array.getElem?_toList,Array.getElem?_toList,h3 i (by omega)]
  ·rfl
theorem sO {P:Program}{n:Nat}(w:World)(t e ty:TypeId)(z:Value)(ht:P.underlying t=some (.slice e))(hv:∀w,(zeroValue e).run P w=.ok z w)(h1:∀u∈(Builtin.zeroCells z.cells n).toList,u.oneCell'=true)(b o c:Nat)(hn:0<n)
  (hc:∀j,j<(Builtin.zeroCells z.cells n).toList.length→(w.cell? ⟨b,o+j,none⟩).isSome=true) (hf:∀j,j<(Builtin.zeroCells z.cells n).toList.length→w.frozen? ⟨b,o+j,none⟩=false):
  (Builtin.clear_ #[t] ty #[.slice (some ⟨b,o,none⟩) n c]).run P w=.ok (.tuple #[]) (w.setCells b o (Builtin.zeroCells z.cells n).toList):=by
 have hst:=run_storeCells_cells (P:=P) b o (Builtin.zeroCells z.cells n).toList 0 w (by simpa using hc) (by simpa using hf) h1
 simp only[Nat.add_zero]at hst
 obtain⟨m,rfl⟩:∃m,n=m+1:=⟨n-1,by omega⟩
 simp[Builtin.clear_,run_underlying ht,hv,hst]
theorem vZ (z:Array Value)(n:Nat):(Builtin.zeroCells z n).toList.length=n*z.size:=by
 rw[Array.length_toList,size_zeroCells]
theorem vX {z:Array Value}(n:Nat)(hz:∀u∈z,u.oneCell'=true):∀u∈(Builtin.zeroCells z n).toList,u.oneCell'=true:=by
 intro u hu
 unfold Builtin.zeroCells at hu
 rw[Array.toList_map,Array.toList_range,List.mem_map]at hu
 obtain⟨i,hi,rfl⟩:=hu
 rw[List.mem_range]at hi
 have h0:0<z.size:=Nat.pos_of_ne_zero fun h=>by rw[h]at hi;simp at hi
 have hlt:i % z.size<z.size:=Nat.mod_lt _ h0
 rw[getElem!_pos z _ hlt]
 exact hz _ (Array.getElem_mem hlt)
section
variable {α:Type} {P:Program} {w:World} {v:Value}
theorem fP.jo {f:α→List Value}{k:Nat}(hk:∀a,(f a).length=k){l:List α}(h:fP f w v l){t:TypeId}(ht:P.underlying t=some (.slice (P.elem t)))(hs:∀wx,(sizeOf (P.elem t)).run P wx=.ok k wx)(p:Nat)(hp:p≤l.length):
  ∃vs,(∀wx,(Instr.slice t v (some (.int .i64 p)) none none).run P wx=.ok vs wx)∧fP f w vs (l.drop p):=by
 have hlen:(l.drop p).length=l.length-p:=by rw[List.length_drop]
 rcases h with⟨hv,hz⟩|⟨ad,cap,hv,h1,h2,hc⟩
 ·subst hz hv
  obtain rfl:p=0:=by simpa using hp
  refine⟨.slice none 0 0,fun wx=>?_,fP.nil _ _⟩
  rw[run_slice_l wx t none 0 0 ht .i64 _ (by omega) (by omega)]
  simp[Result.andThen,sliced,hs]
 ·subst hv
  by_cases hcl:cap=p
  ·refine⟨.slice (some ad) (l.length-p) (cap-p),fun wx=>?_,.inr ⟨ad,cap-p,by rw[hlen],by rw[hlen];omega,by omega,fun j u hj=>?_⟩⟩
   ·rw[run_slice_l wx t (some ad) l.length cap ht .i64 _ (by omega) (by omega),hs]
    simp[Result.andThen,sliced,hcl]
   ·rw[List.drop_eq_nil_of_le (by omega)]at hj
    simp[gcells]at hj
  ·refine⟨.slice (some (ad.add (p*k))) (l.length-p) (cap-p),fun wx=>?_,.inr ⟨ad.add (p*k),cap-p,by rw[hlen],by rw[hlen];omega,by omega,fun j u hj=>?_⟩⟩
   ·rw[run_slice_l wx t (some ad) l.length cap ht .i64 _ (by omega) (by omega),hs]
    simp[Result.andThen,sliced,hcl]
   ·have e:(ad.add (p*k)).add j=ad.add (p*k+j):=by
     unfold Addr.add
     by_cases h0:p*k=0<;>by_cases h3:j=0<;>simp[h0,h3,Nat.add_assoc]
    rw[zN hk,List.getElem?_drop]at hj
    rw[e]
    exact hc _ u hj
end
theorem adG (rs:List Rv)(h:∀r∈rs,∃a n c,r.v=.slice a n c):∀u∈gcells jb rs,u.oneCell'=true:=by
 induction rs with
 |nil=>simp[gcells]
 |cons r l ih=>
  intro u hu
  rw[gcells,List.mem_append]at hu
  rcases hu with hu|hu
  ·obtain⟨a,n,c,hv⟩:=h r (by simp)
   simp only[jb,List.mem_cons,List.not_mem_nil,or_false]at hu
   rcases hu with rfl|rfl|rfl|rfl
   ·rfl
   ·rfl
   ·rw[hv];rfl
   ·rfl
  ·exact ih (fun r hr=>h r (by simp[hr])) u hu
theorem Tryz.aiG:(prog.info? 208).map (fun i=>(i.zero,i.size,i.bytes))=some (some (.agg #[.int .i64 0,.int .i64 0,.slice none 0 0,.int .i64 0]),4,48):=by kernel_rfl
theorem Tryz.aa2:prog.underlying 95=some (.slice (prog.elem 95)):=by kernel_rfl
theorem Tryz.abC (wx:World):(sizeOf (prog.elem 95)).run prog wx=.ok 4 wx:=by kernel_rfl
theorem Tryz.azl (wx:World):(zeroValue 208).run prog wx=.ok (.agg #[.int .i64 0,.int .i64 0,.slice none 0 0,.int .i64 0]) wx:=by kernel_rfl
theorem ate (w:World)(wv:Value)(rs:List Rv)(n:Nat)(hrow:eZ jb 4 208 0 w wv rs)(hsl:∀r∈rs,∃a n c,r.v=.slice a n c)(hn:n≤rs.length)(hlen:rs.length≤1000000):
  Calls prog 269 #[wv,.int .i64 0,.int .i64 n] w fun E w'=>∃v',E=.returned v'∧eZ jb 4 208 0 w' v' (rs.drop n)∧Out (fun g=>wv.ownBlock=some g) w w'∧v'.ownBlock=wv.ownBlock:=by
 by_cases h0:n=0
 ·subst h0
  obtain⟨ao,cap,hv,hcap,hcm⟩:=hrow.row.shape
  subst hv
  have R:=hide (show eZ jb 4 208 0 w (.slice ao rs.length cap) (rs.drop 0)from hrow)
  clear hrow hsl
  go_enter func269,ntmps269
  go_wp2
  all_goals (go_ret;exact⟨_,rfl,R.out,Out.refl _ _,rfl⟩)
 ·obtain⟨L,hL⟩:∃L,L=rs.length:=⟨_,rfl⟩
  obtain⟨m,hm⟩:∃m,L=n+m:=⟨L-n,by omega⟩
  obtain⟨g,cap,hv,hcap,hcm,hcell,azi⟩:∃g cap,wv=.slice (some ⟨g,0,none⟩) L cap∧L≤cap∧cap≤maxLen∧(∀j,j<cap*4→(w.cell? ⟨g,j,none⟩).isSome=true)∧∀j,w.frozen? ⟨g,j,none⟩=false:=by
   rcases hrow.2 with⟨_,h⟩|⟨g,cap,cur,hv,_,hg,hc,hm',hs,_⟩
   ·omega
   ·refine⟨g,cap,by rw[hL];exact hv,by rw[hL];exact hc,hm',fun j hj=>?_,fun j=>aA hg j⟩
    rw[ai hg j (Array.getElem?_eq_getElem (by omega:j<cur.size))]
    rfl
  have hdl:(rs.drop n).length=m:=by rw[List.length_drop];omega
  obtain⟨i,hi,hz,hsize,hby⟩:=info_parts Tryz.aiG
  obtain⟨vs,hs3,hrw⟩:=hrow.row.jo lV Tryz.aa2 Tryz.abC n (by omega)
  obtain⟨avs,aD,hvs,hcv,hcells⟩:∃ad c,vs=.slice (some ad) m c∧m≤c∧∀j u,(gcells jb (rs.drop n))[j]? =some u→w.cell? (ad.add j)=some u:=by
   rcases hrw with⟨h,h'⟩|⟨ad,c,h1,h2,_,h4⟩
   ·exfalso
    have:=hs3 w
    rw[hv,run_slice_l w 95 (some ⟨g,0,none⟩) L cap Tryz.aa2 .i64 _ (by omega) (by omega),Tryz.abC,h]at this
    simp[Result.andThen,sliced]at this
    split at this<;>simp at this
   ·exact⟨ad,c,by rw[h1,hdl],by omega,h4⟩
  have aeU:w.ownsRow 0 208 4 (.slice (some ⟨g,0,none⟩) 0 cap) 0 []:=by
   have h1:w.ownsRow 0 208 4 wv L (gcells jb rs):=by rw[hL];exact hrow
   rw[hv]at h1
   simpa using acL h1 0 (by omega)
  have hrun:∃w1,(∀ty,(Builtin.append_ #[95,95] ty #[.slice (some ⟨g,0,none⟩) 0 cap,.slice (some avs) m aD]).run prog w.drew=.ok (.slice (some ⟨g,0,none⟩) m cap) w1)∧w1.ownsRow 0 208 4 (.slice (some ⟨g,0,none⟩) m cap) m (gcells jb (rs.drop n))∧w.drew.grownBy w1 (some g):=by
   have key:=fun ty=>run_append_fits (P:=prog) w.drew 0 95 ty 208 i 4 underlying95 hi hsize g 0 cap [] aeU avs m aD (gcells jb (rs.drop n)) (by rw[mF lV,hdl]) hcells (adG _ fun r hr=>hsl r (List.mem_of_mem_drop hr)) (by omega)
   obtain⟨w1,h1,h2,h3⟩:=key 0
   rw[Nat.zero_add]at h1 h2
   exact⟨w1,fun ty=>h1,h2,h3⟩
  obtain⟨w1,hrun,aX,zV⟩:=hrun
  obtain⟨apN,hg1,hs1⟩:∃cur,w1.heap[g]? =some (.cells cur 208 (0,0))∧cur.size=cap*4:=by
   rcases aX.2 with⟨h,_⟩|⟨g',cap',cur,h,_,hg,_,_,hs,_⟩
   ·simp at h
   ·simp only[Value.slice.injEq,Option.some.injEq,Addr.mk.injEq,and_true,true_and]at h
    obtain⟨rfl,rfl⟩:=h
    exact⟨cur,hg,hs⟩
  have hzl:(Builtin.zeroCells (Value.agg #[.int .i64 0,.int .i64 0,.slice none 0 0,.int .i64 0]).cells n).toList.length=n*4:=by rw[vZ];rfl
  obtain⟨w2,hw2⟩:∃w2,w2=w1.setCells g (m*4) (Builtin.zeroCells (Value.agg #[.int .i64 0,.int .i64 0,.slice none 0 0,.int .i64 0]).cells n).toList:=⟨_,rfl⟩
  have hcl:∀ty,(Builtin.clear_ #[95] ty #[.slice (some ⟨g,m*4,none⟩) n (cap-m)]).run prog w1=.ok (.tuple #[]) w2:=fun ty=>by
   rw[hw2]
   exact sO w1 _ _ ty _ underlying95 Tryz.azl (vX n (by decide)) g (m*4) (cap-m) (by omega) (fun j hj=>by rw[hzl]at hj;rw[ai hg1 _ (Array.getElem?_eq_getElem (by omega:m*4+j<apN.size))];rfl) (fun j _=>aA hg1 _)
  have R:Hid (eZ jb 4 208 0 w2 (.slice (some ⟨g,0,none⟩) m cap) (rs.drop n)):=hide (by
   unfold eZ
   rw[hdl,hw2]
   exact yg aX _ (Nat.le_refl _) _)
  have O:Hid (Out (fun b=>(Value.slice (some ⟨g,0,none⟩) L cap).ownBlock=some b) w w2):=hide (by
   rw[hw2]
   exact Out.aM (aH (aH (jG w 1 _) zV) (mU g _ (m*4) w1)) fun b hb=>hb)
  obtain⟨x1,hsA⟩:∃x,∀wx,(Instr.slice 95 wv (some (.int .i64 0)) (some (.int .i64 n)) (some (.int .i64 L))).run prog wx=.ok x wx:=by
   refine⟨sliced (some ⟨g,0,none⟩) 0 n L 4,fun wx=>?_⟩
   rw[hv,run_slice_lhm wx 95 (some ⟨g,0,none⟩) L cap Tryz.aa2 .i64 .i64 .i64 _ _ _ (by omega) (by omega) (by omega) (by omega),Tryz.abC]
   simp[Result.andThen]
  have hs2:∀wx,(Instr.slice 95 wv none (some (.int .i64 0)) none).run prog wx=.ok (.slice (some ⟨g,0,none⟩) 0 cap) wx:=fun wx=>by
   rw[hv,run_slice_h wx 95 (some ⟨g,0,none⟩) L cap Tryz.aa2 .i64 _ (by omega) (by omega),Tryz.abC]
   simp[Result.andThen,sliced,Addr.add]
  have hlr:∀ty wx,(Builtin.len_ #[95] ty #[wv]).run prog wx=.ok (.int .i64 L) wx:=fun ty wx=>by
   rw[hv]
   simp[Builtin.len_,run_underlying underlying95,goInt]
  have xH:wv.ownBlock=some g:=by rw[hv];rfl
  rw[←hv]at O
  rw[hvs]at hs3
  have hmc:¬cap=m:=by omega
  have hmL:(m:Int)≤L:=by omega
  have hLc:(L:Int)≤cap:=by omega
  have ry:L-m=n:=by omega
  rw[←ry]at hcl
  have hne:((0:Int)==(n:Int))=false:=by simp;omega
  have HB:=hide xH
  have HR:=hide hrun
  clear hrun hw2 hzl hg1 hs1 aX zV aeU hrw hcells hcell azi hrow hsl hi hz hsize hby hvs hdl hL hm hv ry h0 hn hlen hcap hcm xH hcv
  go_enter func269,ntmps269
  go_wp2
  go_region_law (refine dR rfl (.tmp 22) (.tmp 25) 95 rfl (.slice (some ⟨g,0,none⟩) 0 cap) (.slice (some avs) m aD) (by first|rfl|(simp[Act.eval];done)) (by first|rfl|(simp[Act.eval];done)) (R:=fun v' w'=>v'=.slice (some ⟨g,0,none⟩) m cap∧w'=w1) (fun ty=>⟨_,_,HR.out ty,rfl,rfl⟩) ?_;rintro _ _ ⟨rfl,rfl⟩)
  all_goals (go_wp2;go_ret;exact⟨_,rfl,R.out,O.out,HB.out.symm⟩)
section
variable {p:Nat} {F G:Nat→Prop} {w w' w1 w2:World} {st st':Dm.Ds} {sure ayY:Nat→List Int} {wait ajW:List Dm.Rw} {s s':Nat→Value} {wv wv':Value} {rs rs':List Rv}
def sup (s:Nat→Value) (f:Nat) (v:Value):Nat→Value:=fun j=>if j=f then v else s j
theorem jR.files (h:jR w sure wait s wv rs){f:Nat}(hf:f<4){v:Value}{bs':List Int}(hown:Own .u8 5 0 w' v bs')(ho:Out (fun g=>(s f).ownBlock=some g) w w')(hat:∀b,v.ownBlock=some b→(s f).ownBlock=some b∨w.heap.size≤b):
  jR w' (Dm.upd sure f bs') wait (sup s f v) wv rs:=by
 have hlt:∀j,j<4→∀b,(s j).ownBlock=some b→b<w.heap.size:=fun j hj b hb=>((h.file j hj).block b hb).2
 have hrl:∀r∈rs,∀b,r.v.ownBlock=some b→b<w.heap.size:=fun r hr b hb=>by
  obtain⟨_,cs,fr,hc⟩:=(h.raw r hr).2 b hb
  exact ay hc
 have nv:∀j,j<4→j≠f→∀b,v.ownBlock=some b→(s j).ownBlock≠some b:=fun j hj hjf b hb e=>by
  rcases hat b hb with h1|h1
  ·exact h.apart f j hf hj (Ne.symm hjf) b h1 e
  ·have:=hlt j hj b e;omega
 refine⟨fun j hj=>?_,fun j k hj hk hjk b hb=>?_,?_,fun r hr=>?_,fun r hr j hj b hb=>?_,h.wait⟩
 ·by_cases e:j=f
  ·subst e;simp only[sup,Dm.upd,if_true];exact hown
  ·simp only[sup,Dm.upd,if_neg e]
   exact(h.file j hj).agree fun b hb=>ho.block b (hlt j hj b hb) fun h1=>h.apart j f hj hf e b hb h1
 ·unfold sup at hb⊢
  by_cases e:j=f
  ·rw[if_pos e]at hb
   rw[if_neg (fun h1=>hjk (e.trans h1.symm))]
   exact nv k hk (fun h1=>hjk (e.trans h1.symm)) b hb
  ·rw[if_neg e]at hb
   by_cases e2:k=f
   ·rw[if_pos e2]
    exact fun h1=>nv j hj e b h1 hb
   ·rw[if_neg e2]
    exact h.apart j k hj hk hjk b hb
 ·refine h.row.agree fun b hb=>ho.block b (h.row.lt b hb).2 fun h1=>?_
  obtain⟨cs,hc⟩:=h.row.type hb
  obtain⟨cs',hc'⟩:=(h.file f hf).type h1
  rw[hc]at hc'
  simp at hc'
 ·exact(h.raw r hr).agree fun b hb=>ho.block b (hrl r hr b hb) fun h1=>h.aaL r hr f hf b hb h1
 ·unfold sup
  by_cases e:j=f
  ·rw[if_pos e]
   intro h1
   rcases hat b h1 with h2|h2
   ·exact h.aaL r hr f hf b hb h2
   ·have:=hrl r hr b hb;omega
  ·rw[if_neg e]
   exact h.aaL r hr j hj b hb
theorem FB.files {f:Nat}(hf:f<4){v:Value}(hat:∀b,v.ownBlock=some b→(s f).ownBlock=some b∨w.heap.size≤b):∀g,FB p (sup s f v) wv rs g→FB p s wv rs g∨w.heap.size≤g:=by
 rintro g (h|⟨j,hj,h⟩|h|h)
 ·exact .inl (.inl h)
 ·unfold sup at h
  by_cases e:j=f
  ·rw[if_pos e]at h
   rcases hat g h with h1|h1
   ·exact .inl (.inr (.inl ⟨f,hf,h1⟩))
   ·exact .inr h1
  ·rw[if_neg e]at h
   exact .inl (.inr (.inl ⟨j,hj,h⟩))
 ·exact .inl (.inr (.inr (.inl h)))
 ·exact .inl (.inr (.inr (.inr h)))
theorem jR.rows (h:jR w sure wait s wv rs)(hrow:eZ jb 4 208 0 w' wv' rs')(ho:Out (fun g=>wv.ownBlock=some g) w w')
  (hraw:∀r∈rs',Byt (fun _=>True) w r.v r.bytes∧∀f,f<4→∀b,r.v.ownBlock=some b→(s f).ownBlock≠some b) (hw:rs'.map Rv.r=ajW):jR w' sure ajW s wv' rs':=by
 refine⟨fun j hj=>?_,h.apart,hrow,fun r hr=>?_,fun r hr=>(hraw r hr).2,hw⟩
 ·refine(h.file j hj).agree fun b hb=>ho.block b ((h.file j hj).block b hb).2 fun h1=>?_
  obtain⟨cs,hc⟩:=h.row.type h1
  obtain⟨cs',hc'⟩:=(h.file j hj).type hb
  rw[hc]at hc'
  simp at hc'
 ·refine(hraw r hr).1.agree fun b hb=>?_
  obtain⟨_,cs,fr,hc⟩:=(hraw r hr).1.2 b hb
  refine ho.block b (ay hc) fun h1=>?_
  obtain⟨cs',hc'⟩:=h.row.type h1
  rw[hc]at hc'
  simp at hc'
end
end Go.Proofs.YtlmkaljjocflmaaGreatDoor
namespace Go.Proofs.YtlmkaljjocflmaaGreatDoor
open Go.RowKit Go.Shelf
theorem ajX (s:Nat→Value)(wv:Value)(on:Bool)(aaN count:Int)(f:Nat)(hf:f<4)(v:Value):(gF s wv on aaN count).setIfInBounds (3+f) v=gF (sup s f v) wv on aaN count:=by
 rcases(show f=0∨f=1∨f=2∨f=3 by omega)with rfl|rfl|rfl|rfl<;>simp[gF,sup]
theorem aoG {l:List Dm.Rw}{k:Nat}{r:Dm.Rw}(h:l[k]? =some r)(s:Nat→List Int):Dm.dof s (l.take (k+1))=Dm.one (Dm.dof s (l.take k)) r:=by rw[uH h,Dm.ao3]
theorem ahY (s:Nat→List Int)(l:List Dm.Rw)(f:Nat):(Dm.dof s l f).length≤(s f).length+Dm.gH l:=by
 rw[←Dm.qH]
 exact Dm.aax l (s f) f
theorem eZ.kJ {P:Program}{α:Type}{c:α→List Value}{k e base:Nat}{w:World}{l:List α}{ao:Option Addr}{cap:Nat}(h:eZ c k e base w (.slice ao l.length cap) l){t:TypeId}(ht:P.underlying t=some (.slice (P.elem t)))(hs:∀wx,(sizeOf (P.elem t)).run P wx=.ok k wx)(n:Nat)(hn:n≤l.length):
  ∀wx,(Instr.slice t (.slice ao l.length cap) none (some (.int .i64 n)) none).run P wx=.ok (.slice ao n cap) wx:=by
 intro wx
 rcases h.2 with⟨hv,hz⟩|⟨g,cap',cur,hv,_,_,hc,_⟩
 ·simp only[Value.slice.injEq]at hv
  obtain⟨rfl,_,rfl⟩:=hv
  rw[run_slice_h wx t none l.length 0 ht .i64 _ (by omega) (by omega),hs]
  simp[Result.andThen,sliced]
 ·simp only[Value.slice.injEq,true_and]at hv
  obtain⟨rfl,rfl⟩:=hv
  rw[run_slice_h wx t _ l.length cap ht .i64 _ (by omega) (by omega),hs]
  simp[Result.andThen,sliced,Addr.add]
def acH (p:Nat) (w:World) (st:Dm.Ds) (s:Nat→Value) (wv:Value) (rs:List Rv) (k:Nat) (wr:World):Prop:=
 ∃s',wr.heap[p]? =some (.cells (gF s' wv st.on (fw st) st.count) 97 (0,0))∧jR wr (Dm.dof st.sure (st.wait.take k)) st.wait s' wv rs∧Out (FB p s wv rs) w wr∧∀g,FB p s' wv rs g→FB p s wv rs g∨w.heap.size≤g
theorem acH.next {p:Nat}{w:World}{st:Dm.Ds}{s s':Nat→Value}{wv:Value}{rs:List Rv}{k:Nat}{wr w2:World}{r:Rv}{v:Value}
  (hB:wr.heap[p]? =some (.cells (gF s' wv st.on (fw st) st.count) 97 (0,0))) (hC:jR wr (Dm.dof st.sure (st.wait.take k)) st.wait s' wv rs) (hO:Out (FB p s wv rs) w wr) (hF:∀g,FB p s' wv rs g→FB p s wv rs g∨w.heap.size≤g)
  (hk:st.wait[k]? =some r.r) (hf:r.file<4) (ho:Out (fun g=>(s' r.file).ownBlock=some g) wr w2) (hown:Own .u8 5 0 w2 v (Dm.qY (Dm.dof st.sure (st.wait.take k) r.file) r.r)) (hat:∀b,v.ownBlock=some b→(s' r.file).ownBlock=some b∨wr.heap.size≤b):
  acH p w st s wv rs (k+1) (w2.setCell ⟨p,3+r.file,none⟩ v):=by
 have hB2:w2.heap[p]? =some (.cells (gF s' wv st.on (fw st) st.count) 97 (0,0)):=(ho.block p (ay hB) fun h=>(hC.ne hB (by decide) (by decide)).1 r.file hf p h rfl).trans hB
 have hC2:=hC.files hf hown ho hat
 refine⟨sup s' r.file v,by rw[aF hB2,ajX _ _ _ _ _ _ hf],?_,?_,fun g hg=>?_⟩
 ·have e:Dm.dof st.sure (st.wait.take (k+1))=Dm.upd (Dm.dof st.sure (st.wait.take k)) r.file (Dm.qY (Dm.dof st.sure (st.wait.take k) r.file) r.r):=by rw[aoG hk];rfl
  rw[e]
  exact hC2.but hB2 (by decide) (by decide) fun b hb _=>Below.heap_setCell _ _ _ _ hb
 ·have h1:Out (FB p s wv rs) w w2:=hO.trans ho fun g hg=>hF g (.inr (.inl ⟨_,hf,hg⟩))
  exact h1.trans (Out.aM (F:=fun g=>g=p) (ax w2 ⟨p,3+r.file,none⟩ v) fun g hg=>by simp at hg;exact hg.symm) fun g hg=>.inl (.inl hg)
 ·rcases FB.files hf hat g hg with h1|h1
  ·exact hF g h1
  ·exact .inr (Nat.le_trans hO.size h1)
theorem Tryz.amc:∀args w,(callFunc 268 args).run prog w=.ok (.enter 268 args) w:=enters_of func268 (by kernel_rfl) rfl
theorem akt (p:Nat)(F:Nat→Prop)(w:World)(st:Dm.Ds)(n:Nat)(h:Pk p F w st)(hn:n≤st.wait.length)(hsz:∀f,(st.sure f).length+Dm.gH st.wait≤140737488355000)(hw:st.wait.length≤1000000):
  Calls prog 206 #[.pointer (some ⟨p,0,none⟩),.int .i64 n] w fun E w'=>(∃v,E=.returned v)∧bN p F w w' {st with sure:=Dm.dof st.sure (st.wait.take n),wait:=st.wait.drop n}:=by
 obtain⟨s,wv,rs,h,rfl⟩:=h
 have hlr:=h.ja.len
 have c7:=h.c7
 obtain⟨ao,cap,hv,hcap,hcm⟩:=h.ja.row.row.shape
 have hsl:∀wx,(Instr.slice 95 wv none (some (.int .i64 n)) none).run prog wx=.ok (.slice ao n cap) wx:=by
  have:=h.ja.row
  rw[hv]at this⊢
  exact this.kJ Tryz.aa2 Tryz.abC n (by omega)
 have hao:0<rs.length→∃b,ao=some ⟨b,0,none⟩∧wv.ownBlock=some b:=by
  intro h0
  rcases h.ja.row.2 with⟨_,h1⟩|⟨g,cap',cur,h1,_⟩
  ·omega
  ·rw[hv]at h1
   simp only[Value.slice.injEq,true_and]at h1
   exact⟨g,h1.1,by rw[hv,h1.1];rfl⟩
 have H:=hide h
 have HAO:=hide hao
 have HLR:=hide hlr
 have hnL:n≤rs.length:=by omega
 have I0:Hid (acH p w st s wv rs 0 w):=hide ⟨s,h.blk,by simpa[Dm.dof]using h.ja,Out.refl _ _,fun g hg=>.inl hg⟩
 clear h hao hlr hv
 go_enter func206,ntmps206
 go_wp2
 go_loopw [13] (fun iv wr=>∃k:Nat,k≤n∧iv=.int .i64 k∧Hid (acH p w st s wv rs k wr)) (fun iv _=>n-(intOf iv).toNat)
 case atStart=>exact⟨0,by omega,rfl,I0⟩
 case round=>
  obtain⟨k,hk,rfl,I⟩:=hrel
  obtain⟨s',hB,hC,hO,hF⟩:=I.out
  have HO:=hide hO
  have HF:=hide hF
  have HBp:=hide hB
  by_cases hlt:k<n
  ·obtain⟨g,rfl,hg⟩:=HAO.out (by omega)
   obtain⟨r,hr⟩:∃r,rs[k]? =some r:=⟨rs[k],by rw[List.getElem?_eq_getElem]⟩
   have hcell:=fun j u hj=>hC.row.cells hg (k*4+j) u (sj lV rs k r hr j u hj)
   have e0:wr.cell? ⟨g,k*4,none⟩=some (.int .i64 (jV r)):=by have:=hcell 0 _ rfl;rwa[gG,Nat.zero_add]at this
   have e1:wr.cell? ⟨g,k*4+1,none⟩=some (.int .i64 r.file):=by have:=hcell 1 _ rfl;rwa[gG,Nat.zero_add]at this
   have e2:wr.cell? ⟨g,k*4+2,none⟩=some r.v:=by have:=hcell 2 _ rfl;rwa[gG,Nat.zero_add]at this
   have e3:wr.cell? ⟨g,k*4+3,none⟩=some (.int .i64 r.to):=by have:=hcell 3 _ rfl;rwa[gG,Nat.zero_add]at this
   obtain⟨V,hV,hV2,iy,bg,bV,x0,x1,x2,x3⟩:=agO wr 208 (.int .i64 0) (.int .i64 0) (.slice none 0 0) (.int .i64 0) (.int .i64 (jV r)) (.int .i64 r.file) r.v (.int .i64 r.to)
   have hst:st.wait[k]? =some r.r:=by rw[←H.out.ja.wait,List.getElem?_map,hr];rfl
   have hfit:=Dm.agw H.out.ok hst
   have hf:r.file<4:=hfit.1
   have hbl:=ahX hst
   have hdl:=ahY st.sure (st.wait.take k) r.file
   have aAP:=hsz r.file
   obtain⟨ar,cr,mG,_,_⟩:=(hC.raw r (List.mem_of_getElem? hr)).1.shape
   have ir:=((hC.raw r (List.mem_of_getElem? hr)).1).below bg
   have cfv:V.cell? ⟨p,3+r.file,none⟩=some (s' r.file):=(bg.cell (p:=⟨p,3+r.file,none⟩) (ay hB)).trans (an2 (cs:=#[]) hB r.file hf)
   obtain⟨af,nf,cpf,hsf⟩:=(hC.file r.file hf).is.form
   have hne:∀b,(s' r.file).ownBlock=some b→b<wr.heap.size:=fun b hb=>((hC.file r.file hf).block b hb).2
   have BI:Hid (Calls prog 268 #[.agg #[.int .i64 (jV r),.int .i64 r.file,r.v,.int .i64 r.to],s' r.file] V.drew fun E w2=>∃v2,E=.returned v2∧(acH p w st s wv rs (k+1) (w2.setCell ⟨p,3+r.file,none⟩ v2)∧(w2.cell? ⟨wr.heap.size,0,none⟩=some (.int .i64 (jV r))∧w2.cell? ⟨wr.heap.size,1,none⟩=some (.int .i64 r.file)∧w2.cell? ⟨wr.heap.size,2,none⟩=some r.v∧w2.cell? ⟨wr.heap.size,3,none⟩=some (.int .i64 r.to))∧w2.cell? ⟨p,3+r.file,none⟩=some (s' r.file)∧w2.frozen? ⟨p,3+r.file,none⟩=false∧∃a n c,v2=.slice a n c)):=hide (by
    refine(aaY 0 (s' r.file) _ r V.drew (((hC.file r.file hf).below bg).drewN 1) (Nat.zero_le _) (ir.drewN 1) (fun hc=>hfit.2.1 hc) (by have:r.r.bytes=r.bytes:=rfl;rw[this]at hbl;omega)).mono ?_
    rintro E w2 ⟨v2,rfl,aW,agF,at2⟩
    have arI:Out (fun g=>(s' r.file).ownBlock=some g) wr w2:=(Out.of_below (F:=fun g=>(s' r.file).ownBlock=some g) ((bg).trans (below_drewN (Below.refl _ _) 1))).trans agF fun g hg=>.inl hg
    have hb2:w2.heap[wr.heap.size]? =some (.cells #[.int .i64 (jV r),.int .i64 r.file,r.v,.int .i64 r.to] 208 (0,0)):=(agF.block wr.heap.size (show wr.heap.size<V.heap.size by omega) fun h=>by have:=hne _ h;omega).trans bV
    have hp2:w2.heap[p]? =some (.cells (gF s' wv st.on (fw st) st.count) 97 (0,0)):=(arI.block p (ay hB) fun h=>(hC.ne hB (by decide) (by decide)).1 r.file hf p h rfl).trans hB
    refine⟨v2,rfl,acH.next hB hC HO.out HF.out hst hf arI aW (fun b hb=>?_),⟨ai hb2 0 rfl,ai hb2 1 rfl,ai hb2 2 rfl,ai hb2 3 rfl⟩,an2 (cs:=#[]) hp2 r.file hf,aA hp2 _,aW.is.form⟩
    rcases at2 b hb with h1|h1
    ·exact .inl h1
    ·exact .inr (by have h2:V.drew.heap.size=V.heap.size:=rfl;omega))
   have hlt':(k:Int)<n:=by omega
   have hk0:(0:Int)≤(k:Int):=by omega
   have hf0:(0:Int)≤(r.file:Int):=by omega
   have hf4:(r.file:Int)<4:=by omega
   have hp:p<wr.heap.size:=ay hB
   rw[mG]at e2 hV hV2 x2 BI
   rw[hsf]at cfv BI
   clear hcell hr hst hfit hbl hdl aAP ir hne hC hO hF hB bV I mG hsf hg
   go_wp2_with fail
   go_region_law (refine p9 rfl 268 #[.tmp 20,.tmp 27] #[208,61] rfl Tryz.amc #[.agg #[.int .i64 (jV r),.int .i64 r.file,.slice ar r.bytes.length cr,.int .i64 r.to],.slice af nf cpf] (by first|rfl|(simp[Act.eval];done)) BI.out ?_;rintro v2 w2 ⟨J,⟨y0,y1,y2,y3⟩,cp2,fp2,a2,n2,c2,rfl⟩;have J:=hide J)
   all_goals
    go_wp2
    go_roundw
    case rel=>exact⟨k+1,by omega,by go_num,J⟩
    case measure=>simp[intOf];omega
  ·obtain rfl:k=n:=by omega
   have c7r:wr.cell? ⟨p,7,none⟩=some wv:=ai hB 7 rfl
   have hlt':¬(k:Int)<k:=by omega
   have DI:Hid (Calls prog 269 #[wv,.int .i64 0,.int .i64 k] wr fun E w4=>∃v4,E=.returned v4∧(bN p (FB p s wv rs) w (w4.setCell ⟨p,7,none⟩ v4) {st with sure:=Dm.dof st.sure (st.wait.take k),wait:=st.wait.drop k}∧w4.cell? ⟨p,7,none⟩=some wv∧w4.frozen? ⟨p,7,none⟩=false∧∃a n c,v4=.slice a n c)):=hide (by
    refine(ate wr wv rs k hC.row (fun r hr=>(hC.raw r hr).1.form) hnL (by have:=HLR.out;omega)).mono ?_
    rintro E w4 ⟨v4,rfl,acf,aru,ob4⟩
    have hC4:jR w4 (Dm.dof st.sure (st.wait.take k)) (st.wait.drop k) s' v4 (rs.drop k):=hC.rows acf aru (fun r hr=>⟨hC.raw r (List.mem_of_mem_drop hr),hC.aaL r (List.mem_of_mem_drop hr)⟩) (by rw[←hC.wait,List.map_drop])
    have mq:w4.heap[p]? =some (.cells (gF s' wv st.on (fw st) st.count) 97 (0,0)):=(aru.block p (ay hB) fun h=>(hC.ne hB (by decide) (by decide)).2.1 p h rfl).trans hB
    have hok:Dm.valid (Dm.dof st.sure (st.wait.take k)) (st.wait.drop k):=by
     have:=H.out.ok
     unfold Dm.Ok at this
     rw[←List.take_append_drop k st.wait,Dm.rW]at this
     exact this.2
    obtain⟨R1,R2⟩:=fH.put (st':={st with sure:=Dm.dof st.sure (st.wait.take k),wait:=st.wait.drop k}) (s':=s') (wv':=v4) (rs':=rs.drop k) mq 7 v4 rfl hC4 hok
    refine⟨v4,rfl,⟨_,⟨s',v4,rs.drop k,R1,rfl⟩,?_,?_⟩,ai mq 7 rfl,aA mq 7,?_⟩
    ·have h1:Out (FB p s wv rs) w w4:=hO.trans aru fun g hg=>hF g (.inr (.inr (.inl hg)))
     exact h1.trans R2 fun g hg=>.inl (.inl hg)
    ·rintro g (h1|h1|h1|⟨r,hr,h1⟩)
     ·exact hF g (.inl h1)
     ·exact hF g (.inr (.inl h1))
     ·exact hF g (.inr (.inr (.inl (by rw[←ob4];exact h1))))
     ·exact hF g (.inr (.inr (.inr ⟨r,List.mem_of_mem_drop hr,h1⟩)))
    ·obtain⟨a,c,hv,_⟩:=acf.row.shape
     exact⟨a,_,c,hv⟩)
   clear hC hO hF hB I HO HF HBp
   go_wp2_with fail
   refine DI.out.mono ?_
   rintro E w4 ⟨v4,rfl,J,c4,f4,a4,n4,k4,rfl⟩
   have J:=hide J
   go_wp2
   go_end0
   exact⟨⟨_,rfl⟩,J.out⟩
end Go.Proofs.YtlmkaljjocflmaaGreatDoor
namespace Go.Proofs.YtlmkaljjocflmaaGreatDoor
open Go.RowKit Go.Shelf
def torn (st:Dm.Ds) (t:Nat):Nat→List Int:=
 match st.wait[0]? with
 |some r=>if r.cut then st.sure else Dm.one st.sure ⟨r.file,false,0,r.bytes.take (min t (r.bytes.length-1))⟩
 |none=>st.sure
end Go.Proofs.YtlmkaljjocflmaaGreatDoor
namespace Go.Proofs.YtlmkaljjocflmaaGreatDoor
open Go.RowKit Go.Shelf
theorem atK {st:Dm.Ds}{r:Dm.Rw}(h:Dm.Ok st)(hf:Dm.fits (Dm.dof st.sure st.wait) r):Dm.Ok (Dm.push st r):=by
 unfold Dm.Ok Dm.push at*
 rw[Dm.rW]
 exact⟨h,hf,trivial⟩
theorem ac8 {p:Nat}{W:World}{st:Dm.Ds}{s:Nat→Value}{wv:Value}{rs:List Rv}(h:fH p W st s wv rs)(r:Rv)(hraw:Byt (fun _=>True) W r.v r.bytes)(hra:∀f,f<4→∀b,r.v.ownBlock=some b→(s f).ownBlock≠some b)(hfit:Dm.fits (Dm.dof st.sure st.wait) r.r)(hlen:rs.length≤1000000):
  ∃V,W.drew.alloc (.cells #[.int .i64 (jV r),.int .i64 r.file,r.v,.int .i64 r.to] 208)=V∧V.cell? ⟨p,7,none⟩=some wv∧Hid (∀ty,∃v' w',(Builtin.append_ #[95,95] ty #[wv,.slice (some ⟨W.heap.size,0,none⟩) 1 1]).run prog V=.ok v' w'∧
   ((∃F',Pk p F' (w'.setCell ⟨p,7,none⟩ v') (Dm.push st r.r)∧Out (FB p s wv rs) W (w'.setCell ⟨p,7,none⟩ v')∧∀g,F' g→FB p s wv rs g∨W.heap.size≤g∨r.v.ownBlock=some g)∧w'.cell? ⟨p,7,none⟩=some wv∧w'.frozen? ⟨p,7,none⟩=false∧∃a n c,v'=.slice a n c)):=by
 obtain⟨a0,n0,k0,mG⟩:=hraw.1.form
 obtain⟨V,hV,iy,bg,azO⟩:=rE jb 4 lV 208 W.drew #[.int .i64 (jV r),.int .i64 r.file,r.v,.int .i64 r.to] 1 [r] rfl rfl (by decide)
 have fu:Below W.heap.size W V:=(below_drewN (Below.refl _ _) 1).trans bg
 have hV1:=h.below fu
 refine⟨V,hV,hV1.c7,hide fun ty=>?_⟩
 obtain⟨v',w',hr,own',gr',at'⟩:=oq (P:=prog) 95 ty jb 4 48 lV (by decide) (by decide) (.agg #[.int .i64 0,.int .i64 0,.slice none 0 0,.int .i64 0]) rfl 208 0 underlying95 Tryz.aiG wv rs hV1.ja.row _ [r] azO.row (adG [r] fun q hq=>by simp at hq;subst hq;exact hraw.1.form) (by simp;omega) (Nat.zero_le _)
 have out':Out (fun g=>wv.ownBlock=some g) V w':=Out.aM gr' fun g hg=>hg
 have hC':jR w' st.sure (st.wait++[r.r]) s v' (rs++[r]):=hV1.ja.rows own' out' (fun q hq=>by
  rcases List.mem_append.1 hq with hq|hq
  ·exact⟨hV1.ja.raw q hq,hV1.ja.aaL q hq⟩
  ·simp at hq
   subst hq
   exact⟨hraw.agree fun b hb=>by obtain⟨_,cs,fr,hc⟩:=hraw.2 b hb;exact fu.block b (ay hc),hra⟩) (by rw[List.map_append,h.ja.wait];rfl)
 have hp':w'.heap[p]? =some (.cells (gF s wv st.on (fw st) st.count) 97 (0,0)):=(out'.block p (ay hV1.blk) fun h1=>(hV1.ja.ne hV1.blk (by decide) (by decide)).2.1 p h1 rfl).trans hV1.blk
 obtain⟨R1,R2⟩:=fH.put (st':=Dm.push st r.r) (s':=s) (wv':=v') (rs':=rs++[r]) hp' 7 v' rfl hC' (atK h.ok hfit)
 refine⟨v',w',hr,⟨_,⟨s,v',rs++[r],R1,rfl⟩,?_,?_⟩,ai hp' 7 rfl,aA hp' 7,?_⟩
 ·have h1:Out (FB p s wv rs) W w':=(Out.of_below fu).trans out' fun g hg=>.inl (.inr (.inr (.inl hg)))
  exact h1.trans R2 fun g hg=>.inl (.inl hg)
 ·rintro g (h1|h1|h1|⟨q,hq,h1⟩)
  ·exact .inl (.inl h1)
  ·exact .inl (.inr (.inl h1))
  ·rcases at' with h2|h2
   ·exact .inl (.inr (.inr (.inl (by rw[←h2];exact h1))))
   ·rw[h1]at h2
    simp at h2
    exact .inr (.inl (by have:=fu.size;omega))
  ·rcases List.mem_append.1 hq with hq|hq
   ·exact .inl (.inr (.inr (.inr ⟨q,hq,h1⟩)))
   ·simp at hq
    subst hq
    exact .inr (.inr h1)
 ·obtain⟨a,c,hv,_⟩:=own'.row.shape
  exact⟨a,_,c,hv⟩
theorem count_tail {p:Nat}{w:World}{st:Dm.Ds}{s:Nat→Value}{wv:Value}{rs:List Rv}(h:fH p w st s wv rs)(hh:st.has=false):
  ∃V,w.setCell ⟨p,8,none⟩ (.int .i64 ((st.count:Int)+1))=V∧fH p V (Dm.dQ st) s wv rs∧Out (FB p s wv rs) w V∧V.heap.size=w.heap.size∧∀g,g≠p→V.heap[g]? =w.heap[g]? :=by
 have hb:Dm.dQ st={st with count:=st.count+1}:=by simp[Dm.dQ,hh]
 obtain⟨R1,R2⟩:=h.set (st':=Dm.dQ st) 8 (.int .i64 ((st.count:Int)+1)) (by rw[hb];simp[gF,fw,hh]) (by rw[hb]) (by rw[hb])
 exact⟨_,rfl,R1,R2,by simp[World.setCell],fun g hg=>Below.heap_setCell _ _ _ _ hg⟩
theorem adq {p:Nat}{w:World}{st:Dm.Ds}{s:Nat→Value}{wv:Value}{rs:List Rv}(h:fH p w st s wv rs)(hh:st.has=true)(hl:1≤st.left):
  ∃U V,w.setCell ⟨p,2,none⟩ (.int .i64 ((st.left:Int)-1))=U∧U.setCell ⟨p,8,none⟩ (.int .i64 ((st.count:Int)+1))=V∧U.cell? ⟨p,8,none⟩=some (.int .i64 st.count)∧U.frozen? ⟨p,8,none⟩=false∧fH p V (Dm.dQ st) s wv rs∧Out (FB p s wv rs) w V∧V.heap.size=w.heap.size∧∀g,g≠p→V.heap[g]? =w.heap[g]? :=by
 have hb:Dm.dQ st={st with left:=st.left-1,count:=st.count+1}:=by simp[Dm.dQ,hh]
 have hsub:((st.left-1:Nat):Int)=(st.left:Int)-1:=by omega
 obtain⟨R1,R2⟩:=h.set (st':={st with left:=st.left-1}) 2 (.int .i64 ((st.left:Int)-1)) (by simp[gF,fw,hh,hsub]) rfl rfl
 obtain⟨R3,R4⟩:=R1.set (st':=Dm.dQ st) 8 (.int .i64 ((st.count:Int)+1)) (by rw[hb];simp[gF,fw,hh]) (by rw[hb]) (by rw[hb])
 exact⟨_,_,rfl,rfl,R1.c8,R1.lH 8,R3,R2.trans R4 fun g hg=>.inl hg,by simp[World.setCell],fun g hg=>(Below.heap_setCell _ _ _ _ hg).trans (Below.heap_setCell _ _ _ _ hg)⟩
def PDo (p:Nat) (F:Nat→Prop) (w:World) (st':Dm.Ds) (v:Value) (w':World):Prop:=∃F',Pk p F' w' st'∧Out F w w'∧∀g,F' g→F g∨w.heap.size≤g∨v.ownBlock=some g
theorem PDo.as0 {p:Nat}{F:Nat→Prop}{w w':World}{st':Dm.Ds}{v:Value}(h:bN p F w w' st'):PDo p F w st' v w':=by
 obtain⟨F',h1,h2,h3⟩:=h
 exact⟨F',h1,h2,fun g hg=>(h3 g hg).elim .inl fun h=>.inr (.inl h)⟩
theorem ajY (p:Nat)(F:Nat→Prop)(w:World)(st:Dm.Ds)(r:Rv)(h:Pk p F w st)(hraw:Byt (fun _=>True) w r.v r.bytes)(hra:∀b,r.v.ownBlock=some b→¬F b)(hfit:Dm.fits (Dm.dof st.sure st.wait) r.r)(hlen:st.wait.length≤1000000)(hl:st.left≤9223372036854775807)(hc:st.count<9223372036854775807):
  Calls prog 148 #[.pointer (some ⟨p,0,none⟩),.agg #[.int .i64 (jV r),.int .i64 r.file,r.v,.int .i64 r.to]] w fun E w'=>E=.returned (.int .i64 (if Dm.off st then 6 else 0))∧PDo p F w (if Dm.off st then Dm.lI st else Dm.push (Dm.dQ st) r.r) r.v w':=by
 obtain⟨s,wv,rs,h,rfl⟩:=h
 obtain⟨a0,n0,k0,mG⟩:=hraw.1.form
 obtain⟨w1,hw1,aV,aj,hB⟩:=au w #[.int .i64 (jV r),.int .i64 r.file,r.v,.int .i64 r.to] 208
 have h1:=h.below aj
 have c1:=h1.c1
 have c2:=h1.c2
 have c8:=h1.c8
 have f1:=h1.lH 1
 have f2:=h1.lH 2
 have f8:=h1.lH 8
 have uZ:Byt (fun _=>True) w1 r.v r.bytes:=hraw.agree fun b hb=>by obtain⟨_,cs,fr,hc⟩:=hraw.2 b hb;exact aj.block b (ay hc)
 have aaq:∀f,f<4→∀b,r.v.ownBlock=some b→(s f).ownBlock≠some b:=fun f hf b hb h2=>hra b hb (.inr (.inl ⟨f,hf,h2⟩))
 have hnp:∀b,r.v.ownBlock=some b→b≠p:=fun b hb h2=>hra b hb (.inl h2)
 have hpw:p<w.heap.size:=ay h.blk
 have hlr:=h.ja.len
 have avX:jV r=0∨jV r=1:=by unfold jV;split<;>simp
 by_cases hoff:Dm.off st=true
 ·rw[hoff,if_pos rfl,if_pos rfl]
  have hz:fw st=0:=by
   simp[Dm.off]at hoff
   simp[fw,hoff.1,hoff.2]
  obtain⟨R1,R2⟩:=h1.set (st':=Dm.lI st) 1 (.bool false) rfl rfl rfl
  have HR:Hid (PDo p (FB p s wv rs) w (Dm.lI st) r.v (w1.setCell ⟨p,1,none⟩ (.bool false))):=hide (PDo.as0 (bN.pre aj (bN.ang R1 R2)))
  rw[hz]at c2
  rw[mG]at hw1 HR⊢
  clear h h1 R1 R2 hB hraw uZ hra aaq hnp hfit hlr hz hoff mG
  go_enter func148,ntmps148
  go_wp2
  go_ret
  exact⟨rfl,HR.out⟩
 ·have pq:Dm.off st=false:=by simpa using hoff
  rw[pq,if_neg (by simp),if_neg (by simp)]
  cases hh:st.has
  ·have hz:fw st=-1:=by simp[fw,hh]
   obtain⟨W,hW,nN,jU,szW,qo⟩:=count_tail h1 hh
   have hBW:=(qo w.heap.size (by omega)).trans hB
   have x0:W.cell? ⟨w.heap.size,0,none⟩=some (.int .i64 (jV r)):=ai hBW 0 rfl
   have x1:W.cell? ⟨w.heap.size,1,none⟩=some (.int .i64 r.file):=ai hBW 1 rfl
   have x2:W.cell? ⟨w.heap.size,2,none⟩=some r.v:=ai hBW 2 rfl
   have x3:W.cell? ⟨w.heap.size,3,none⟩=some (.int .i64 r.to):=ai hBW 3 rfl
   have hb:(Dm.dQ st).sure=st.sure∧(Dm.dQ st).wait=st.wait:=⟨rfl,rfl⟩
   obtain⟨V,hV,v7,X⟩:=ac8 nN r (uZ.agree fun b hb=>qo b (hnp b hb)) aaq (by rw[hb.1,hb.2];exact hfit) (by omega)
   have X2:Hid (∀ty,∃v' w',(Builtin.append_ #[95,95] ty #[wv,.slice (some ⟨W.heap.size,0,none⟩) 1 1]).run prog V=.ok v' w'∧(PDo p (FB p s wv rs) w (Dm.push (Dm.dQ st) r.r) r.v (w'.setCell ⟨p,7,none⟩ v')∧w'.cell? ⟨p,7,none⟩=some wv∧w'.frozen? ⟨p,7,none⟩=false∧∃a n c,v'=.slice a n c)):=hide fun ty=>by
    obtain⟨v',w',hr,⟨F',g1,g2,g3⟩,h3⟩:=X.out ty
    refine⟨v',w',hr,⟨F',g1,((Out.of_below aj).trans jU fun g hg=>.inl hg).trans g2 fun g hg=>.inl hg,fun g hg=>?_⟩,h3⟩
    rcases g3 g hg with h4|h4|h4
    ·exact .inl h4
    ·exact .inr (.inl (by omega))
    ·exact .inr (.inr h4)
   have w7:W.cell? ⟨p,7,none⟩=some wv:=nN.c7
   rw[hz]at c2
   rw[mG]at hw1 x2 hV X2⊢
   have hcw:IntKind.i64.wrap ((st.count:Int)+1)=(st.count:Int)+1:=lL _ (by omega) (by omega)
   rcases avX with hk|hk
   ·rw[hk]at hw1 x0 hV⊢
    clear h h1 hB hraw uZ hra aaq hnp hfit hlr hz hoff pq mG nN jU qo hBW hb X hk hh
    go_enter func148,ntmps148
    go_wp2_with fail
    go_region_law (refine dR rfl (.tmp 41) (.tmp 43) 95 rfl wv (.slice (some ⟨W.heap.size,0,none⟩) 1 1) (by first|rfl|(simp[Act.eval];done)) (by first|rfl|(simp[Act.eval];done)) X2.out ?_;rintro v5 w5 ⟨J,d7,g7,a5,n5,c5,rfl⟩;have J:=hide J)
    all_goals
     go_wp2
     go_ret
     exact⟨rfl,J.out⟩
   ·rw[hk]at hw1 x0 hV⊢
    clear h h1 hB hraw uZ hra aaq hnp hfit hlr hz hoff pq mG nN jU qo hBW hb X hk hh
    go_enter func148,ntmps148
    go_wp2_with fail
    go_region_law (refine dR rfl (.tmp 41) (.tmp 43) 95 rfl wv (.slice (some ⟨W.heap.size,0,none⟩) 1 1) (by first|rfl|(simp[Act.eval];done)) (by first|rfl|(simp[Act.eval];done)) X2.out ?_;rintro v5 w5 ⟨J,d7,g7,a5,n5,c5,rfl⟩;have J:=hide J)
    all_goals
     go_wp2
     go_ret
     exact⟨rfl,J.out⟩
  ·have hl1:1≤st.left:=by
    simp[Dm.off,hh]at hoff
    omega
   have hz:fw st=st.left:=by simp[fw,hh]
   obtain⟨U,W,hU,hW,u8,fu8,nN,jU,szW,qo⟩:=adq h1 hh hl1
   have hBW:=(qo w.heap.size (by omega)).trans hB
   have x0:W.cell? ⟨w.heap.size,0,none⟩=some (.int .i64 (jV r)):=ai hBW 0 rfl
   have x1:W.cell? ⟨w.heap.size,1,none⟩=some (.int .i64 r.file):=ai hBW 1 rfl
   have x2:W.cell? ⟨w.heap.size,2,none⟩=some r.v:=ai hBW 2 rfl
   have x3:W.cell? ⟨w.heap.size,3,none⟩=some (.int .i64 r.to):=ai hBW 3 rfl
   have hb:(Dm.dQ st).sure=st.sure∧(Dm.dQ st).wait=st.wait:=⟨rfl,rfl⟩
   obtain⟨V,hV,v7,X⟩:=ac8 nN r (uZ.agree fun b hb=>qo b (hnp b hb)) aaq (by rw[hb.1,hb.2];exact hfit) (by omega)
   have X2:Hid (∀ty,∃v' w',(Builtin.append_ #[95,95] ty #[wv,.slice (some ⟨W.heap.size,0,none⟩) 1 1]).run prog V=.ok v' w'∧(PDo p (FB p s wv rs) w (Dm.push (Dm.dQ st) r.r) r.v (w'.setCell ⟨p,7,none⟩ v')∧w'.cell? ⟨p,7,none⟩=some wv∧w'.frozen? ⟨p,7,none⟩=false∧∃a n c,v'=.slice a n c)):=hide fun ty=>by
    obtain⟨v',w',hr,⟨F',g1,g2,g3⟩,h3⟩:=X.out ty
    refine⟨v',w',hr,⟨F',g1,((Out.of_below aj).trans jU fun g hg=>.inl hg).trans g2 fun g hg=>.inl hg,fun g hg=>?_⟩,h3⟩
    rcases g3 g hg with h4|h4|h4
    ·exact .inl h4
    ·exact .inr (.inl (by omega))
    ·exact .inr (.inr h4)
   have w7:W.cell? ⟨p,7,none⟩=some wv:=nN.c7
   rw[hz]at c2
   rw[mG]at hw1 x2 hV X2⊢
   have hcw:IntKind.i64.wrap ((st.count:Int)+1)=(st.count:Int)+1:=lL _ (by omega) (by omega)
   have hlw:IntKind.i64.wrap ((st.left:Int)-1)=(st.left:Int)-1:=lL _ (by omega) (by omega)
   have hl0:((st.left:Int)==0)=false:=beq_eq_false_iff_ne.2 (by omega)
   have hlm:((st.left:Int)==-1)=false:=beq_eq_false_iff_ne.2 (by omega)
   rcases avX with hk|hk
   ·rw[hk]at hw1 x0 hV⊢
    clear h h1 hB hraw uZ hra aaq hnp hfit hlr hz hoff pq mG nN jU qo hBW hb X hk hh
    go_enter func148,ntmps148
    go_wp2_with fail
    go_region_law (refine dR rfl (.tmp 41) (.tmp 43) 95 rfl wv (.slice (some ⟨W.heap.size,0,none⟩) 1 1) (by first|rfl|(simp[Act.eval];done)) (by first|rfl|(simp[Act.eval];done)) X2.out ?_;rintro v5 w5 ⟨J,d7,g7,a5,n5,c5,rfl⟩;have J:=hide J)
    all_goals
     go_wp2
     go_ret
     exact⟨rfl,J.out⟩
   ·rw[hk]at hw1 x0 hV⊢
    clear h h1 hB hraw uZ hra aaq hnp hfit hlr hz hoff pq mG nN jU qo hBW hb X hk hh
    go_enter func148,ntmps148
    go_wp2_with fail
    go_region_law (refine dR rfl (.tmp 41) (.tmp 43) 95 rfl wv (.slice (some ⟨W.heap.size,0,none⟩) 1 1) (by first|rfl|(simp[Act.eval];done)) (by first|rfl|(simp[Act.eval];done)) X2.out ?_;rintro v5 w5 ⟨J,d7,g7,a5,n5,c5,rfl⟩;have J:=hide J)
    all_goals
     go_wp2
     go_ret
     exact⟨rfl,J.out⟩
end Go.Proofs.YtlmkaljjocflmaaGreatDoor
namespace Go.Proofs.YtlmkaljjocflmaaGreatDoor
open Go.RowKit Go.Shelf
theorem aqe (st:Dm.Ds)(n:Nat)(hn:n=st.wait.length):({st with sure:=Dm.dof st.sure (st.wait.take n),wait:=st.wait.drop n}:Dm.Ds)=Dm.flush st:=by
 subst hn
 simp[Dm.flush]
theorem ajP (p:Nat)(F:Nat→Prop)(w:World)(st:Dm.Ds)(h:Pk p F w st)(hsz:∀f,(st.sure f).length+Dm.gH st.wait≤140737488355000)(hlen:st.wait.length≤1000000)(hl:st.left≤9223372036854775807)(hc:st.count<9223372036854775807):
  Calls prog 148 #[.pointer (some ⟨p,0,none⟩),.agg #[.int .i64 2,.int .i64 0,.slice none 0 0,.int .i64 0]] w fun E w'=>E=.returned (.int .i64 (if Dm.off st then 6 else 0))∧bN p F w w' (if Dm.off st then Dm.lI st else Dm.flush (Dm.dQ st)):=by
 obtain⟨s,wv,rs,h,rfl⟩:=h
 obtain⟨w1,hw1,aV,aj,hB⟩:=au w #[.int .i64 2,.int .i64 0,.slice none 0 0,.int .i64 0] 208
 have h1:=h.below aj
 have c1:=h1.c1
 have c2:=h1.c2
 have c8:=h1.c8
 have f1:=h1.lH 1
 have f2:=h1.lH 2
 have f8:=h1.lH 8
 have hpw:p<w.heap.size:=ay h.blk
 have hlr:=h.ja.len
 obtain⟨ao,cap,hv,_,_⟩:=h.ja.row.row.shape
 by_cases hoff:Dm.off st=true
 ·rw[hoff,if_pos rfl,if_pos rfl]
  have hz:fw st=0:=by
   simp[Dm.off]at hoff
   simp[fw,hoff.1,hoff.2]
  obtain⟨R1,R2⟩:=h1.set (st':=Dm.lI st) 1 (.bool false) rfl rfl rfl
  have HR:Hid (bN p (FB p s wv rs) w (w1.setCell ⟨p,1,none⟩ (.bool false)) (Dm.lI st)):=hide (bN.pre aj (bN.ang R1 R2))
  rw[hz]at c2
  clear h h1 R1 R2 hB hlr hz hoff hv
  go_enter func148,ntmps148
  go_wp2
  go_ret
  exact⟨rfl,HR.out⟩
 ·have pq:Dm.off st=false:=by simpa using hoff
  rw[pq,if_neg (by simp),if_neg (by simp)]
  have tail:∀W,fH p W (Dm.dQ st) s wv rs→Out (FB p s wv rs) w1 W→Hid (Calls prog 206 #[.pointer (some ⟨p,0,none⟩),.int .i64 rs.length] W fun E w'=>(∃v,E=.returned v)∧bN p (FB p s wv rs) w w' (Dm.flush (Dm.dQ st))):=fun W hP hO=>hide (by
   refine(akt p _ W (Dm.dQ st) rs.length ⟨s,wv,rs,hP,rfl⟩ (by have:(Dm.dQ st).wait=st.wait:=rfl;rw[this];omega) hsz hlen).mono ?_
   rintro E w' ⟨hE,hS⟩
   rw[aqe _ _ (by have:(Dm.dQ st).wait=st.wait:=rfl;rw[this];omega)]at hS
   exact⟨hE,(hS.trans hO fun g hg=>.inl hg).pre aj⟩)
  have hcw:IntKind.i64.wrap ((st.count:Int)+1)=(st.count:Int)+1:=lL _ (by omega) (by omega)
  cases hh:st.has
  ·have hz:fw st=-1:=by simp[fw,hh]
   obtain⟨W,hW,nN,jU,szW,qo⟩:=count_tail h1 hh
   have hBW:=(qo w.heap.size (by omega)).trans hB
   have x0:W.cell? ⟨w.heap.size,0,none⟩=some (.int .i64 2):=ai hBW 0 rfl
   have w7:W.cell? ⟨p,7,none⟩=some wv:=nN.c7
   have T:=tail W nN jU
   rw[hv]at w7
   rw[hz]at c2
   clear h h1 hB hlr hz hoff pq hv nN jU qo hBW hh tail
   go_enter func148,ntmps148
   go_wp2_with fail
   refine T.out.mono ?_
   rintro E w5 ⟨⟨v5,rfl⟩,J⟩
   have J:=hide J
   go_wp2
   go_ret
   exact⟨rfl,J.out⟩
  ·have hl1:1≤st.left:=by
    simp[Dm.off,hh]at hoff
    omega
   have hz:fw st=st.left:=by simp[fw,hh]
   obtain⟨U,W,hU,hW,u8,fu8,nN,jU,szW,qo⟩:=adq h1 hh hl1
   have hBW:=(qo w.heap.size (by omega)).trans hB
   have x0:W.cell? ⟨w.heap.size,0,none⟩=some (.int .i64 2):=ai hBW 0 rfl
   have w7:W.cell? ⟨p,7,none⟩=some wv:=nN.c7
   have T:=tail W nN jU
   rw[hv]at w7
   rw[hz]at c2
   have hlw:IntKind.i64.wrap ((st.left:Int)-1)=(st.left:Int)-1:=lL _ (by omega) (by omega)
   have hl0:((st.left:Int)==0)=false:=beq_eq_false_iff_ne.2 (by omega)
   have hlm:((st.left:Int)==-1)=false:=beq_eq_false_iff_ne.2 (by omega)
   clear h h1 hB hlr hz hoff pq hv nN jU qo hBW hh tail
   go_enter func148,ntmps148
   go_wp2_with fail
   refine T.out.mono ?_
   rintro E w5 ⟨⟨v5,rfl⟩,J⟩
   have J:=hide J
   go_wp2
   go_ret
   exact⟨rfl,J.out⟩
theorem ahE {α β:Type}(b:Bool)(x y:α)(u v:β):(if b=true then(x,u)else(y,v))=((if b=true then x else y),if b=true then u else v):=by cases b<;>rfl
theorem aaK (p:Nat)(F:Nat→Prop)(w:World)(st:Dm.Ds)(h:Pk p F w st)(hsz:∀f,(st.sure f).length+Dm.gH st.wait≤140737488355000)(hlen:st.wait.length≤1000000)(hl:st.left≤9223372036854775807)(hc:st.count<9223372036854775807):
  Calls prog 189 #[.pointer (some ⟨p,0,none⟩)] w fun E w'=>E=.returned (.int .i64 (Dm.sync st).1)∧bN p F w w' (Dm.sync st).2:=by
 have HA:=hide (nC p F w st h)
 have HD:=hide (ajP p F w st h hsz hlen hl hc)
 have HK:=hide h
 clear h
 unfold Dm.sync
 cases hon:st.on
 ·rw[if_pos rfl]
  have hk:=zf hon
  clear hon
  go_enter func189,ntmps189
  go_wp2_with fail
  refine HA.out.mono ?_
  rintro E w1 ⟨rfl,rfl⟩
  rw[hk]
  go_wp2
  go_ret
  exact⟨rfl,bN.same HK.out (Below.refl _ _)⟩
 ·rw[if_neg (by simp),ahE]
  have hk:=xW hon
  generalize (if Dm.off st=true then(6:Int)else 0)=e at HD⊢
  generalize (if Dm.off st=true then Dm.lI st else Dm.flush (Dm.dQ st))=st' at HD⊢
  clear hon
  go_enter func189,ntmps189
  go_wp2_with fail
  refine HA.out.mono ?_
  rintro E w1 ⟨rfl,rfl⟩
  rw[hk]
  go_wp2_with fail
  refine HD.out.mono ?_
  rintro E w2 ⟨rfl,J⟩
  have J:=hide J
  go_wp2
  go_ret
  exact⟨rfl,J.out⟩
def mE (st:Dm.Ds) (file:Int):Int:=if st.on=false then 6 else if Dm.kS file=false then 2 else 0
def rH (st:Dm.Ds) (file:Int):List Int:=if st.on=false then []else if Dm.kS file=false then []else Dm.hold file.toNat (st.sure file.toNat) st.wait
theorem ahG {file:Int}(h:Dm.kS file=true):∃f:Nat,f<4∧file=f:=by
 simp[Dm.kS]at h
 exact⟨file.toNat,by omega,by omega⟩
theorem om (p:Nat)(F:Nat→Prop)(w:World)(st:Dm.Ds)(file:Int)(h:Pk p F w st)(hsz:∀f,(st.sure f).length+Dm.gH st.wait≤140737488355000)(hlen:st.wait.length≤1000000):
  Calls prog 175 #[.pointer (some ⟨p,0,none⟩),.int .i64 file] w fun E w'=>∃v,E=.returned (.tuple #[v,.int .i64 (mE st file)])∧Own .u8 5 w.heap.size w' v (rH st file)∧Below w.heap.size w w':=by
 have HA:=hide (nC p F w st h)
 have HF:=hide (uK file w)
 cases hon:st.on
 ·have e1:mE st file=6:=by simp[mE,hon]
  have e2:rH st file=[]:=by simp[rH,hon]
  rw[e1,e2]
  have hk:=zf hon
  clear hon h e1 e2
  go_enter func175,ntmps175
  go_wp2_with fail
  refine HA.out.mono ?_
  rintro E w1 ⟨rfl,rfl⟩
  rw[hk]
  go_wp2
  refine bodyPost_ret (results_tmp2 rfl _ _ _) rfl ?_
  exact⟨_,rfl,Own.nil _ _ _ _,Below.refl _ _⟩
 ·have hk:=xW hon
  cases hin:Dm.kS file
  ·have e1:mE st file=2:=by simp[mE,hon,hin]
   have e2:rH st file=[]:=by simp[rH,hon,hin]
   rw[e1,e2]
   rw[hin]at HF
   clear hon h e1 e2 hin
   go_enter func175,ntmps175
   go_wp2_with fail
   refine HA.out.mono ?_
   rintro E w1 ⟨rfl,rfl⟩
   rw[hk]
   go_wp2_with fail
   refine HF.out.mono ?_
   rintro E w1 ⟨rfl,rfl⟩
   go_wp2
   refine bodyPost_ret (results_tmp2 rfl _ _ _) rfl ?_
   exact⟨_,rfl,Own.nil _ _ _ _,Below.refl _ _⟩
  ·obtain⟨f,hf,rfl⟩:=ahG hin
   have e1:mE st f=0:=by simp[mE,hon,hin]
   have e2:rH st f=Dm.hold f (st.sure f) st.wait:=by simp[rH,hon,hin]
   rw[e1,e2]
   rw[hin]at HF
   have HH:=hide (arv p F w st f h hf (hsz f) hlen)
   clear hon h e1 e2 hin
   go_enter func175,ntmps175
   go_wp2_with fail
   refine HA.out.mono ?_
   rintro E w1 ⟨rfl,rfl⟩
   rw[hk]
   go_wp2_with fail
   refine HF.out.mono ?_
   rintro E w1 ⟨rfl,rfl⟩
   go_wp2_with fail
   refine HH.out.mono ?_
   rintro E w2 ⟨v2,rfl,aW,az⟩
   go_wp2
   refine bodyPost_ret (results_tmp2 rfl _ _ _) rfl ?_
   exact⟨_,rfl,aW,az⟩
end Go.Proofs.YtlmkaljjocflmaaGreatDoor
