/- Texts of one layer, one behind the other. -/
import Derived.Test.YtlmkaljjocflmaaGreatDoorAH7
import Derived.Test.YtlmkaljjocflmaaGreatDoorAH3
import Derived.Deep.RegionHeld3
import Derived.Shelf.Abstract
set_option maxRecDepth 100000
set_option maxHeartbeats 8000000
namespace Go.Proofs.YtlmkaljjocflmaaGreatDoor
open Go.RowKit
set_option linter.unusedVariables false
theorem aci (rs:List Rv)(h:∀r∈rs,∃a n c,r.v=.slice a n c):∀u∈gcells iM rs,u.oneCell'=true:=by
 induction rs with
 |nil=>simp[gcells]
 |cons r l ih=>
  intro u hu
  rw[gcells,List.mem_append]at hu
  rcases hu with hu|hu
  ·obtain⟨a,n,c,hv⟩:=h r (by simp)
   simp only[iM,List.mem_cons,List.not_mem_nil,or_false]at hu
   rcases hu with rfl|rfl|rfl|rfl
   ·rfl
   ·rfl
   ·rw[hv];rfl
   ·rfl
  ·exact ih (fun r hr=>h r (by simp[hr])) u hu
theorem Tryz.ahi:(Tryz.prog.info? 208).map (fun i=>(i.zero,i.size,i.bytes))=some (some (.agg #[.int .i64 0,.int .i64 0,.slice none 0 0,.int .i64 0]),4,48):=by kernel_rfl
theorem Tryz.zA:Tryz.prog.underlying 95=some (.slice (Tryz.prog.elem 95)):=by kernel_rfl
theorem Tryz.aaq (wx:World):(sizeOf (Tryz.prog.elem 95)).run Tryz.prog wx=.ok 4 wx:=by kernel_rfl
theorem Tryz.avE (wx:World):(zeroValue 208).run Tryz.prog wx=.ok (.agg #[.int .i64 0,.int .i64 0,.slice none 0 0,.int .i64 0]) wx:=by kernel_rfl
theorem aq5 (w:World)(wv:Value)(rs:List Rv)(n:Nat)(hrow:dI iM 4 208 0 w wv rs)(hsl:∀r∈rs,∃a n c,r.v=.slice a n c)(hn:n≤rs.length)(hlen:rs.length≤1000000):
  Calls Tryz.prog 269 #[wv,.int .i64 0,.int .i64 n] w fun E w'=>∃v',E=.returned v'∧dI iM 4 208 0 w' v' (rs.drop n)∧Out (fun g=>wv.ownBlock=some g) w w'∧v'.ownBlock=wv.ownBlock:=by
 by_cases h0:n=0
 ·subst h0
  obtain⟨ao,cap,hv,hcap,hcm⟩:=hrow.row.shape
  subst hv
  have R:=hide (show dI iM 4 208 0 w (.slice ao rs.length cap) (rs.drop 0)from hrow)
  clear hrow hsl
  go_enter Tryz.func269,Tryz.ntmps269
  go_wp2
  all_goals (go_ret;exact⟨_,rfl,R.out,Out.refl _ _,rfl⟩)
 ·obtain⟨L,hL⟩:∃L,L=rs.length:=⟨_,rfl⟩
  obtain⟨m,hm⟩:∃m,L=n+m:=⟨L-n,by omega⟩
  obtain⟨g,cap,hv,hcap,hcm,hcell,avJ⟩:∃g cap,wv=.slice (some ⟨g,0,none⟩) L cap∧L≤cap∧cap≤maxLen∧(∀j,j<cap*4→(w.cell? ⟨g,j,none⟩).isSome=true)∧∀j,w.frozen? ⟨g,j,none⟩=false:=by
   rcases hrow.2 with⟨_,h⟩|⟨g,cap,cur,hv,_,hg,hc,hm',hs,_⟩
   ·omega
   ·refine⟨g,cap,by rw[hL];exact hv,by rw[hL];exact hc,hm',fun j hj=>?_,fun j=>aB hg j⟩
    rw[ai hg j (Array.getElem?_eq_getElem (by omega:j<cur.size))]
    rfl
  have hdl:(rs.drop n).length=m:=by rw[List.length_drop];omega
  obtain⟨i,hi,hz,hsize,hby⟩:=info_parts Tryz.ahi
  obtain⟨vs,hs3,hrw⟩:=hrow.row.iN lq Tryz.zA Tryz.aaq n (by omega)
  obtain⟨avs,aH,hvs,hcv,hcells⟩:∃ad c,vs=.slice (some ad) m c∧m≤c∧∀j u,(gcells iM (rs.drop n))[j]? =some u→w.cell? (ad.add j)=some u:=by
   rcases hrw with⟨h,h'⟩|⟨ad,c,h1,h2,_,h4⟩
   ·exfalso
    have:=hs3 w
    rw[hv,run_slice_l w 95 (some ⟨g,0,none⟩) L cap Tryz.zA .i64 _ (by omega) (by omega),Tryz.aaq,h]at this
    simp[Result.andThen,sliced]at this
    split at this<;>simp at this
   ·exact⟨ad,c,by rw[h1,hdl],by omega,h4⟩
  have aeR:w.ownsRow 0 208 4 (.slice (some ⟨g,0,none⟩) 0 cap) 0 []:=by
   have h1:w.ownsRow 0 208 4 wv L (gcells iM rs):=by rw[hL];exact hrow
   rw[hv]at h1
   simpa using agW h1 0 (by omega)
  have hrun:∃w1,(∀ty,(Builtin.append_ #[95,95] ty #[.slice (some ⟨g,0,none⟩) 0 cap,.slice (some avs) m aH]).run Tryz.prog w.drew=.ok (.slice (some ⟨g,0,none⟩) m cap) w1)∧w1.ownsRow 0 208 4 (.slice (some ⟨g,0,none⟩) m cap) m (gcells iM (rs.drop n))∧w.drew.grownBy w1 (some g):=by
   have key:=fun ty=>run_append_fits (P:=Tryz.prog) w.drew 0 95 ty 208 i 4 Tryz.underlying95 hi hsize g 0 cap [] aeR avs m aH (gcells iM (rs.drop n)) (by rw[jW lq,hdl]) hcells (aci _ fun r hr=>hsl r (List.mem_of_mem_drop hr)) (by omega)
   obtain⟨w1,h1,h2,h3⟩:=key 0
   rw[Nat.zero_add]at h1 h2
   exact⟨w1,fun ty=>h1,h2,h3⟩
  obtain⟨w1,hrun,aZ,ym⟩:=hrun
  obtain⟨aw4,hg1,hs1⟩:∃cur,w1.heap[g]? =some (.cells cur 208 (0,0))∧cur.size=cap*4:=by
   rcases aZ.2 with⟨h,_⟩|⟨g',cap',cur,h,_,hg,_,_,hs,_⟩
   ·simp at h
   ·simp only[Value.slice.injEq,Option.some.injEq,Addr.mk.injEq,and_true,true_and]at h
    obtain⟨rfl,rfl⟩:=h
    exact⟨cur,hg,hs⟩
  have hzl:(Builtin.zeroCells (Value.agg #[.int .i64 0,.int .i64 0,.slice none 0 0,.int .i64 0]).cells n).toList.length=n*4:=by rw[ac2];rfl
  obtain⟨w2,hw2⟩:∃w2,w2=w1.setCells g (m*4) (Builtin.zeroCells (Value.agg #[.int .i64 0,.int .i64 0,.slice none 0 0,.int .i64 0]).cells n).toList:=⟨_,rfl⟩
  have hcl:∀ty,(Builtin.clear_ #[95] ty #[.slice (some ⟨g,m*4,none⟩) n (cap-m)]).run Tryz.prog w1=.ok (.tuple #[]) w2:=fun ty=>by
   rw[hw2]
   exact aaX w1 _ _ ty _ Tryz.underlying95 Tryz.avE (ac0 n (by decide)) g (m*4) (cap-m) (by omega) (fun j hj=>by rw[hzl]at hj;rw[ai hg1 _ (Array.getElem?_eq_getElem (by omega:m*4+j<aw4.size))];rfl) (fun j _=>aB hg1 _)
  have R:Hid (dI iM 4 208 0 w2 (.slice (some ⟨g,0,none⟩) m cap) (rs.drop n)):=hide (by
   unfold dI
   rw[hdl,hw2]
   exact adR aZ _ (Nat.le_refl _) _)
  have O:Hid (Out (fun b=>(Value.slice (some ⟨g,0,none⟩) L cap).ownBlock=some b) w w2):=hide (by
   rw[hw2]
   exact Out.aP (aI (aI (jl w 1 _) ym) (rM g _ (m*4) w1)) fun b hb=>hb)
  obtain⟨x1,hsA⟩:∃x,∀wx,(Instr.slice 95 wv (some (.int .i64 0)) (some (.int .i64 n)) (some (.int .i64 L))).run Tryz.prog wx=.ok x wx:=by
   refine⟨sliced (some ⟨g,0,none⟩) 0 n L 4,fun wx=>?_⟩
   rw[hv,run_slice_lhm wx 95 (some ⟨g,0,none⟩) L cap Tryz.zA .i64 .i64 .i64 _ _ _ (by omega) (by omega) (by omega) (by omega),Tryz.aaq]
   simp[Result.andThen]
  have hs2:∀wx,(Instr.slice 95 wv none (some (.int .i64 0)) none).run Tryz.prog wx=.ok (.slice (some ⟨g,0,none⟩) 0 cap) wx:=fun wx=>by
   rw[hv,run_slice_h wx 95 (some ⟨g,0,none⟩) L cap Tryz.zA .i64 _ (by omega) (by omega),Tryz.aaq]
   simp[Result.andThen,sliced,Addr.add]
  have hlr:∀ty wx,(Builtin.len_ #[95] ty #[wv]).run Tryz.prog wx=.ok (.int .i64 L) wx:=fun ty wx=>by
   rw[hv]
   simp[Builtin.len_,run_underlying Tryz.underlying95,goInt]
  have hob:wv.ownBlock=some g:=by rw[hv];rfl
  rw[←hv]at O
  rw[hvs]at hs3
  have hmc:¬cap=m:=by omega
  have hmL:(m:Int)≤L:=by omega
  have hLc:(L:Int)≤cap:=by omega
  have vG:L-m=n:=by omega
  rw[←vG]at hcl
  have hne:((0:Int)==(n:Int))=false:=by simp;omega
  have HB:=hide hob
  have HR:=hide hrun
  clear hrun hw2 hzl hg1 hs1 aZ ym aeR hrw hcells hcell avJ hrow hsl hi hz hsize hby hvs hdl hL hm hv vG h0 hn hlen hcap hcm hob hcv
  go_enter Tryz.func269,Tryz.ntmps269
  go_wp2
  go_region_law (refine dY rfl (.tmp 22) (.tmp 25) 95 rfl (.slice (some ⟨g,0,none⟩) 0 cap) (.slice (some avs) m aH) (by first|rfl|(simp[Act.eval];done)) (by first|rfl|(simp[Act.eval];done)) (R:=fun v' w'=>v'=.slice (some ⟨g,0,none⟩) m cap∧w'=w1) (fun ty=>⟨_,_,HR.out ty,rfl,rfl⟩) ?_;rintro _ _ ⟨rfl,rfl⟩)
  all_goals (go_wp2;go_ret;exact⟨_,rfl,R.out,O.out,HB.out.symm⟩)
section
variable {p:Nat} {F G:Nat→Prop} {w w' w1 w2:World} {st st':Dm.Ds} {sure avx:Nat→List Int} {wait ahL:List Dm.Rw} {s s':Nat→Value} {wv wv':Value} {rs rs':List Rv}
def sup (s:Nat→Value) (f:Nat) (v:Value):Nat→Value:=fun j=>if j=f then v else s j
theorem jC.files (h:jC w sure wait s wv rs){f:Nat}(hf:f<4){v:Value}{bs':List Int}(hown:Own .u8 5 0 w' v bs')(ho:Out (fun g=>(s f).ownBlock=some g) w w')(hat:∀b,v.ownBlock=some b→(s f).ownBlock=some b∨w.heap.size≤b):
  jC w' (Dm.upd sure f bs') wait (sup s f v) wv rs:=by
 have hlt:∀j,j<4→∀b,(s j).ownBlock=some b→b<w.heap.size:=fun j hj b hb=>((h.file j hj).block b hb).2
 have hrl:∀r∈rs,∀b,r.v.ownBlock=some b→b<w.heap.size:=fun r hr b hb=>by
  obtain⟨_,cs,fr,hc⟩:=(h.raw r hr).2 b hb
  exact aA hc
 have nv:∀j,j<4→j≠f→∀b,v.ownBlock=some b→(s j).ownBlock≠some b:=fun j hj hjf b hb e=>by
  rcases hat b hb with h1|h1
  ·exact h.apart f j hf hj (Ne.symm hjf) b h1 e
  ·have:=hlt j hj b e;omega
 refine⟨fun j hj=>?_,fun j k hj hk hjk b hb=>?_,?_,fun r hr=>?_,fun r hr j hj b hb=>?_,h.wait⟩
 ·by_cases e:j=f
  ·subst e;simp only[sup,Dm.upd,if_true];exact hown
  ·simp only[sup,Dm.upd,if_neg e]
   exact(h.file j hj).agree fun b hb=>ho.block b (hlt j hj b hb) fun h1=>h.apart j f hj hf e b hb h1
 ·unfold sup at hb⊢
  by_cases e:j=f
  ·rw[if_pos e]at hb
   rw[if_neg (fun h1=>hjk (e.trans h1.symm))]
   exact nv k hk (fun h1=>hjk (e.trans h1.symm)) b hb
  ·rw[if_neg e]at hb
   by_cases e2:k=f
   ·rw[if_pos e2]
    exact fun h1=>nv j hj e b h1 hb
   ·rw[if_neg e2]
    exact h.apart j k hj hk hjk b hb
 ·refine h.row.agree fun b hb=>ho.block b (h.row.lt b hb).2 fun h1=>?_
  obtain⟨cs,hc⟩:=h.row.type hb
  obtain⟨cs',hc'⟩:=(h.file f hf).type h1
  rw[hc]at hc'
  simp at hc'
 ·exact(h.raw r hr).agree fun b hb=>ho.block b (hrl r hr b hb) fun h1=>h.zl r hr f hf b hb h1
 ·unfold sup
  by_cases e:j=f
  ·rw[if_pos e]
   intro h1
   rcases hat b h1 with h2|h2
   ·exact h.zl r hr f hf b hb h2
   ·have:=hrl r hr b hb;omega
  ·rw[if_neg e]
   exact h.zl r hr j hj b hb
theorem FB.files {f:Nat}(hf:f<4){v:Value}(hat:∀b,v.ownBlock=some b→(s f).ownBlock=some b∨w.heap.size≤b):∀g,FB p (sup s f v) wv rs g→FB p s wv rs g∨w.heap.size≤g:=by
 rintro g (h|⟨j,hj,h⟩|h|h)
 ·exact .inl (.inl h)
 ·unfold sup at h
  by_cases e:j=f
  ·rw[if_pos e]at h
   rcases hat g h with h1|h1
   ·exact .inl (.inr (.inl ⟨f,hf,h1⟩))
   ·exact .inr h1
  ·rw[if_neg e]at h
   exact .inl (.inr (.inl ⟨j,hj,h⟩))
 ·exact .inl (.inr (.inr (.inl h)))
 ·exact .inl (.inr (.inr (.inr h)))
theorem jC.rows (h:jC w sure wait s wv rs)(hrow:dI iM 4 208 0 w' wv' rs')(ho:Out (fun g=>wv.ownBlock=some g) w w')
  (hraw:∀r∈rs',Byt (fun _=>True) w r.v r.bytes∧∀f,f<4→∀b,r.v.ownBlock=some b→(s f).ownBlock≠some b) (hw:rs'.map Rv.r=ahL):jC w' sure ahL s wv' rs':=by
 refine⟨fun j hj=>?_,h.apart,hrow,fun r hr=>?_,fun r hr=>(hraw r hr).2,hw⟩
 ·refine(h.file j hj).agree fun b hb=>ho.block b ((h.file j hj).block b hb).2 fun h1=>?_
  obtain⟨cs,hc⟩:=h.row.type h1
  obtain⟨cs',hc'⟩:=(h.file j hj).type hb
  rw[hc]at hc'
  simp at hc'
 ·refine(hraw r hr).1.agree fun b hb=>?_
  obtain⟨_,cs,fr,hc⟩:=(hraw r hr).1.2 b hb
  refine ho.block b (aA hc) fun h1=>?_
  obtain⟨cs',hc'⟩:=h.row.type h1
  rw[hc]at hc'
  simp at hc'
end
end Go.Proofs.YtlmkaljjocflmaaGreatDoor
namespace Go.Proofs.YtlmkaljjocflmaaGreatDoor
open Go.RowKit Go.Shelf
set_option linter.unusedVariables false
theorem ahA (s:Nat→Value)(wv:Value)(on:Bool)(yR count:Int)(f:Nat)(hf:f<4)(v:Value):(fG s wv on yR count).setIfInBounds (3+f) v=fG (sup s f v) wv on yR count:=by
 rcases(show f=0∨f=1∨f=2∨f=3 by omega)with rfl|rfl|rfl|rfl<;>simp[fG,sup]
theorem ani {l:List Dm.Rw}{k:Nat}{r:Dm.Rw}(h:l[k]? =some r)(s:Nat→List Int):Dm.dof s (l.take (k+1))=Dm.one (Dm.dof s (l.take k)) r:=by rw[tC h,Dm.alY]
theorem agr (s:Nat→List Int)(l:List Dm.Rw)(f:Nat):(Dm.dof s l f).length≤(s f).length+Dm.fP l:=by
 rw[←Dm.gJ]
 exact Dm.zt l (s f) f
theorem dI.kY {P:Program}{α:Type}{c:α→List Value}{k e base:Nat}{w:World}{l:List α}{ao:Option Addr}{cap:Nat}(h:dI c k e base w (.slice ao l.length cap) l){t:TypeId}(ht:P.underlying t=some (.slice (P.elem t)))(hs:∀wx,(sizeOf (P.elem t)).run P wx=.ok k wx)(n:Nat)(hn:n≤l.length):
  ∀wx,(Instr.slice t (.slice ao l.length cap) none (some (.int .i64 n)) none).run P wx=.ok (.slice ao n cap) wx:=by
 intro wx
 rcases h.2 with⟨hv,hz⟩|⟨g,cap',cur,hv,_,_,hc,_⟩
 ·simp only[Value.slice.injEq]at hv
  obtain⟨rfl,_,rfl⟩:=hv
  rw[run_slice_h wx t none l.length 0 ht .i64 _ (by omega) (by omega),hs]
  simp[Result.andThen,sliced]
 ·simp only[Value.slice.injEq,true_and]at hv
  obtain⟨rfl,rfl⟩:=hv
  rw[run_slice_h wx t _ l.length cap ht .i64 _ (by omega) (by omega),hs]
  simp[Result.andThen,sliced,Addr.add]
def abI (p:Nat) (w:World) (st:Dm.Ds) (s:Nat→Value) (wv:Value) (rs:List Rv) (k:Nat) (wr:World):Prop:=
 ∃s',wr.heap[p]? =some (.cells (fG s' wv st.on (dR st) st.count) 97 (0,0))∧jC wr (Dm.dof st.sure (st.wait.take k)) st.wait s' wv rs∧Out (FB p s wv rs) w wr∧∀g,FB p s' wv rs g→FB p s wv rs g∨w.heap.size≤g
theorem abI.next {p:Nat}{w:World}{st:Dm.Ds}{s s':Nat→Value}{wv:Value}{rs:List Rv}{k:Nat}{wr w2:World}{r:Rv}{v:Value}
  (hB:wr.heap[p]? =some (.cells (fG s' wv st.on (dR st) st.count) 97 (0,0))) (hC:jC wr (Dm.dof st.sure (st.wait.take k)) st.wait s' wv rs) (hO:Out (FB p s wv rs) w wr) (hF:∀g,FB p s' wv rs g→FB p s wv rs g∨w.heap.size≤g)
  (hk:st.wait[k]? =some r.r) (hf:r.file<4) (ho:Out (fun g=>(s' r.file).ownBlock=some g) wr w2) (hown:Own .u8 5 0 w2 v (Dm.iT (Dm.dof st.sure (st.wait.take k) r.file) r.r)) (hat:∀b,v.ownBlock=some b→(s' r.file).ownBlock=some b∨wr.heap.size≤b):
  abI p w st s wv rs (k+1) (w2.setCell ⟨p,3+r.file,none⟩ v):=by
 have hB2:w2.heap[p]? =some (.cells (fG s' wv st.on (dR st) st.count) 97 (0,0)):=(ho.block p (aA hB) fun h=>(hC.ne hB (by decide) (by decide)).1 r.file hf p h rfl).trans hB
 have hC2:=hC.files hf hown ho hat
 refine⟨sup s' r.file v,by rw[aG hB2,ahA _ _ _ _ _ _ hf],?_,?_,fun g hg=>?_⟩
 ·have e:Dm.dof st.sure (st.wait.take (k+1))=Dm.upd (Dm.dof st.sure (st.wait.take k)) r.file (Dm.iT (Dm.dof st.sure (st.wait.take k) r.file) r.r):=by rw[ani hk];rfl
  rw[e]
  exact hC2.but hB2 (by decide) (by decide) fun b hb _=>Below.heap_setCell _ _ _ _ hb
 ·have h1:Out (FB p s wv rs) w w2:=hO.trans ho fun g hg=>hF g (.inr (.inl ⟨_,hf,hg⟩))
  exact h1.trans (Out.aP (F:=fun g=>g=p) (ax w2 ⟨p,3+r.file,none⟩ v) fun g hg=>by simp at hg;exact hg.symm) fun g hg=>.inl (.inl hg)
 ·rcases FB.files hf hat g hg with h1|h1
  ·exact hF g h1
  ·exact .inr (Nat.le_trans hO.size h1)
theorem Tryz.alh:∀args w,(callFunc 268 args).run Tryz.prog w=.ok (.enter 268 args) w:=enters_of Tryz.func268 (by kernel_rfl) rfl
theorem ahu (p:Nat)(F:Nat→Prop)(w:World)(st:Dm.Ds)(n:Nat)(h:Pk p F w st)(hn:n≤st.wait.length)(hsz:∀f,(st.sure f).length+Dm.fP st.wait≤140737488355000)(hw:st.wait.length≤1000000):
  Calls Tryz.prog 206 #[.pointer (some ⟨p,0,none⟩),.int .i64 n] w fun E w'=>(∃v,E=.returned v)∧bT p F w w' {st with sure:=Dm.dof st.sure (st.wait.take n),wait:=st.wait.drop n}:=by
 obtain⟨s,wv,rs,h,rfl⟩:=h
 have hlr:=h.iK.len
 have c7:=h.c7
 obtain⟨ao,cap,hv,hcap,hcm⟩:=h.iK.row.row.shape
 have hsl:∀wx,(Instr.slice 95 wv none (some (.int .i64 n)) none).run Tryz.prog wx=.ok (.slice ao n cap) wx:=by
  have:=h.iK.row
  rw[hv]at this⊢
  exact this.kY Tryz.zA Tryz.aaq n (by omega)
 have hao:0<rs.length→∃b,ao=some ⟨b,0,none⟩∧wv.ownBlock=some b:=by
  intro h0
  rcases h.iK.row.2 with⟨_,h1⟩|⟨g,cap',cur,h1,_⟩
  ·omega
  ·rw[hv]at h1
   simp only[Value.slice.injEq,true_and]at h1
   exact⟨g,h1.1,by rw[hv,h1.1];rfl⟩
 have H:=hide h
 have HAO:=hide hao
 have HLR:=hide hlr
 have hnL:n≤rs.length:=by omega
 have I0:Hid (abI p w st s wv rs 0 w):=hide ⟨s,h.blk,by simpa[Dm.dof]using h.iK,Out.refl _ _,fun g hg=>.inl hg⟩
 clear h hao hlr hv
 go_enter Tryz.func206,Tryz.ntmps206
 go_wp2
 go_loopw [13] (fun iv wr=>∃k:Nat,k≤n∧iv=.int .i64 k∧Hid (abI p w st s wv rs k wr)) (fun iv _=>n-(intOf iv).toNat)
 case atStart=>exact⟨0,by omega,rfl,I0⟩
 case round=>
  obtain⟨k,hk,rfl,I⟩:=hrel
  obtain⟨s',hB,hC,hO,hF⟩:=I.out
  have HO:=hide hO
  have HF:=hide hF
  have HBp:=hide hB
  by_cases hlt:k<n
  ·obtain⟨g,rfl,hg⟩:=HAO.out (by omega)
   obtain⟨r,hr⟩:∃r,rs[k]? =some r:=⟨rs[k],by rw[List.getElem?_eq_getElem]⟩
   have hcell:=fun j u hj=>hC.row.cells hg (k*4+j) u (p8 lq rs k r hr j u hj)
   have e0:wr.cell? ⟨g,k*4,none⟩=some (.int .i64 (jL r)):=by have:=hcell 0 _ rfl;rwa[gq,Nat.zero_add]at this
   have e1:wr.cell? ⟨g,k*4+1,none⟩=some (.int .i64 r.file):=by have:=hcell 1 _ rfl;rwa[gq,Nat.zero_add]at this
   have e2:wr.cell? ⟨g,k*4+2,none⟩=some r.v:=by have:=hcell 2 _ rfl;rwa[gq,Nat.zero_add]at this
   have e3:wr.cell? ⟨g,k*4+3,none⟩=some (.int .i64 r.to):=by have:=hcell 3 _ rfl;rwa[gq,Nat.zero_add]at this
   obtain⟨V,hV,hV2,jE,aX,bV,x0,x1,x2,x3⟩:=aep wr 208 (.int .i64 0) (.int .i64 0) (.slice none 0 0) (.int .i64 0) (.int .i64 (jL r)) (.int .i64 r.file) r.v (.int .i64 r.to)
   have hst:st.wait[k]? =some r.r:=by rw[←H.out.iK.wait,List.getElem?_map,hr];rfl
   have hfit:=Dm.ad2 H.out.ok hst
   have hf:r.file<4:=hfit.1
   have hbl:=agz hst
   have hdl:=agr st.sure (st.wait.take k) r.file
   have axo:=hsz r.file
   obtain⟨ar,cr,lu,_,_⟩:=(hC.raw r (List.mem_of_getElem? hr)).1.shape
   have ir:=((hC.raw r (List.mem_of_getElem? hr)).1).below aX
   have cfv:V.cell? ⟨p,3+r.file,none⟩=some (s' r.file):=(aX.cell (p:=⟨p,3+r.file,none⟩) (aA hB)).trans (anq (cs:=#[]) hB r.file hf)
   obtain⟨af,nf,cpf,hsf⟩:=(hC.file r.file hf).is.form
   have hne:∀b,(s' r.file).ownBlock=some b→b<wr.heap.size:=fun b hb=>((hC.file r.file hf).block b hb).2
   have BI:Hid (Calls Tryz.prog 268 #[.agg #[.int .i64 (jL r),.int .i64 r.file,r.v,.int .i64 r.to],s' r.file] V.drew fun E w2=>∃v2,E=.returned v2∧(abI p w st s wv rs (k+1) (w2.setCell ⟨p,3+r.file,none⟩ v2)∧(w2.cell? ⟨wr.heap.size,0,none⟩=some (.int .i64 (jL r))∧w2.cell? ⟨wr.heap.size,1,none⟩=some (.int .i64 r.file)∧w2.cell? ⟨wr.heap.size,2,none⟩=some r.v∧w2.cell? ⟨wr.heap.size,3,none⟩=some (.int .i64 r.to))∧w2.cell? ⟨p,3+r.file,none⟩=some (s' r.file)∧w2.frozen? ⟨p,3+r.file,none⟩=false∧∃a n c,v2=.slice a n c)):=hide (by
    refine(aad 0 (s' r.file) _ r V.drew (((hC.file r.file hf).below aX).drewN 1) (Nat.zero_le _) (ir.drewN 1) (fun hc=>hfit.2.1 hc) (by have:r.r.bytes=r.bytes:=rfl;rw[this]at hbl;omega)).mono ?_
    rintro E w2 ⟨v2,rfl,aY,afg,at2⟩
    have aph:Out (fun g=>(s' r.file).ownBlock=some g) wr w2:=(Out.of_below (F:=fun g=>(s' r.file).ownBlock=some g) ((aX).trans (below_drewN (Below.refl _ _) 1))).trans afg fun g hg=>.inl hg
    have hb2:w2.heap[wr.heap.size]? =some (.cells #[.int .i64 (jL r),.int .i64 r.file,r.v,.int .i64 r.to] 208 (0,0)):=(afg.block wr.heap.size (show wr.heap.size<V.heap.size by omega) fun h=>by have:=hne _ h;omega).trans bV
    have hp2:w2.heap[p]? =some (.cells (fG s' wv st.on (dR st) st.count) 97 (0,0)):=(aph.block p (aA hB) fun h=>(hC.ne hB (by decide) (by decide)).1 r.file hf p h rfl).trans hB
    refine⟨v2,rfl,abI.next hB hC HO.out HF.out hst hf aph aY (fun b hb=>?_),⟨ai hb2 0 rfl,ai hb2 1 rfl,ai hb2 2 rfl,ai hb2 3 rfl⟩,anq (cs:=#[]) hp2 r.file hf,aB hp2 _,aY.is.form⟩
    rcases at2 b hb with h1|h1
    ·exact .inl h1
    ·exact .inr (by have h2:V.drew.heap.size=V.heap.size:=rfl;omega))
   have hlt':(k:Int)<n:=by omega
   have hk0:(0:Int)≤(k:Int):=by omega
   have hf0:(0:Int)≤(r.file:Int):=by omega
   have hf4:(r.file:Int)<4:=by omega
   have hp:p<wr.heap.size:=aA hB
   rw[lu]at e2 hV hV2 x2 BI
   rw[hsf]at cfv BI
   clear hcell hr hst hfit hbl hdl axo ir hne hC hO hF hB bV I lu hsf hg
   go_wp2_with fail
   go_region_law (refine rE rfl 268 #[.tmp 20,.tmp 27] #[208,61] rfl Tryz.alh #[.agg #[.int .i64 (jL r),.int .i64 r.file,.slice ar r.bytes.length cr,.int .i64 r.to],.slice af nf cpf] (by first|rfl|(simp[Act.eval];done)) BI.out ?_;rintro v2 w2 ⟨J,⟨y0,y1,y2,y3⟩,cp2,fp2,a2,n2,c2,rfl⟩;have J:=hide J)
   all_goals
    go_wp2
    go_roundw
    case rel=>exact⟨k+1,by omega,by go_num,J⟩
    case measure=>simp[intOf];omega
  ·obtain rfl:k=n:=by omega
   have c7r:wr.cell? ⟨p,7,none⟩=some wv:=ai hB 7 rfl
   have hlt':¬(k:Int)<k:=by omega
   have DI:Hid (Calls Tryz.prog 269 #[wv,.int .i64 0,.int .i64 k] wr fun E w4=>∃v4,E=.returned v4∧(bT p (FB p s wv rs) w (w4.setCell ⟨p,7,none⟩ v4) {st with sure:=Dm.dof st.sure (st.wait.take k),wait:=st.wait.drop k}∧w4.cell? ⟨p,7,none⟩=some wv∧w4.frozen? ⟨p,7,none⟩=false∧∃a n c,v4=.slice a n c)):=hide (by
    refine(aq5 wr wv rs k hC.row (fun r hr=>(hC.raw r hr).1.form) hnL (by have:=HLR.out;omega)).mono ?_
    rintro E w4 ⟨v4,rfl,abo,amD,ob4⟩
    have hC4:jC w4 (Dm.dof st.sure (st.wait.take k)) (st.wait.drop k) s' v4 (rs.drop k):=hC.rows abo amD (fun r hr=>⟨hC.raw r (List.mem_of_mem_drop hr),hC.zl r (List.mem_of_mem_drop hr)⟩) (by rw[←hC.wait,List.map_drop])
    have mQ:w4.heap[p]? =some (.cells (fG s' wv st.on (dR st) st.count) 97 (0,0)):=(amD.block p (aA hB) fun h=>(hC.ne hB (by decide) (by decide)).2.1 p h rfl).trans hB
    have hok:Dm.valid (Dm.dof st.sure (st.wait.take k)) (st.wait.drop k):=by
     have:=H.out.ok
     unfold Dm.Ok at this
     rw[←List.take_append_drop k st.wait,Dm.qy]at this
     exact this.2
    obtain⟨R1,R2⟩:=eH.put (st':={st with sure:=Dm.dof st.sure (st.wait.take k),wait:=st.wait.drop k}) (s':=s') (wv':=v4) (rs':=rs.drop k) mQ 7 v4 rfl hC4 hok
    refine⟨v4,rfl,⟨_,⟨s',v4,rs.drop k,R1,rfl⟩,?_,?_⟩,ai mQ 7 rfl,aB mQ 7,?_⟩
    ·have h1:Out (FB p s wv rs) w w4:=hO.trans amD fun g hg=>hF g (.inr (.inr (.inl hg)))
     exact h1.trans R2 fun g hg=>.inl (.inl hg)
    ·rintro g (h1|h1|h1|⟨r,hr,h1⟩)
     ·exact hF g (.inl h1)
     ·exact hF g (.inr (.inl h1))
     ·exact hF g (.inr (.inr (.inl (by rw[←ob4];exact h1))))
     ·exact hF g (.inr (.inr (.inr ⟨r,List.mem_of_mem_drop hr,h1⟩)))
    ·obtain⟨a,c,hv,_⟩:=abo.row.shape
     exact⟨a,_,c,hv⟩)
   clear hC hO hF hB I HO HF HBp
   go_wp2_with fail
   refine DI.out.mono ?_
   rintro E w4 ⟨v4,rfl,J,c4,f4,a4,n4,k4,rfl⟩
   have J:=hide J
   go_wp2
   go_end0
   exact⟨⟨_,rfl⟩,J.out⟩
end Go.Proofs.YtlmkaljjocflmaaGreatDoor
namespace Go.Proofs.YtlmkaljjocflmaaGreatDoor
open Go.RowKit Go.Shelf
set_option linter.unusedVariables false
def torn (st:Dm.Ds) (t:Nat):Nat→List Int:=
 match st.wait[0]? with
 |some r=>if r.cut then st.sure else Dm.one st.sure ⟨r.file,false,0,r.bytes.take (min t (r.bytes.length-1))⟩
 |none=>st.sure
end Go.Proofs.YtlmkaljjocflmaaGreatDoor
namespace Go.Proofs.YtlmkaljjocflmaaGreatDoor
open Go.RowKit Go.Shelf
set_option linter.unusedVariables false
theorem arH {st:Dm.Ds}{r:Dm.Rw}(h:Dm.Ok st)(hf:Dm.fits (Dm.dof st.sure st.wait) r):Dm.Ok (Dm.push st r):=by
 unfold Dm.Ok Dm.push at*
 rw[Dm.qy]
 exact⟨h,hf,trivial⟩
theorem ach {p:Nat}{W:World}{st:Dm.Ds}{s:Nat→Value}{wv:Value}{rs:List Rv}(h:eH p W st s wv rs)(r:Rv)(hraw:Byt (fun _=>True) W r.v r.bytes)(hra:∀f,f<4→∀b,r.v.ownBlock=some b→(s f).ownBlock≠some b)(hfit:Dm.fits (Dm.dof st.sure st.wait) r.r)(hlen:rs.length≤1000000):
  ∃V,W.drew.alloc (.cells #[.int .i64 (jL r),.int .i64 r.file,r.v,.int .i64 r.to] 208)=V∧V.cell? ⟨p,7,none⟩=some wv∧Hid (∀ty,∃v' w',(Builtin.append_ #[95,95] ty #[wv,.slice (some ⟨W.heap.size,0,none⟩) 1 1]).run Tryz.prog V=.ok v' w'∧
   ((∃F',Pk p F' (w'.setCell ⟨p,7,none⟩ v') (Dm.push st r.r)∧Out (FB p s wv rs) W (w'.setCell ⟨p,7,none⟩ v')∧∀g,F' g→FB p s wv rs g∨W.heap.size≤g∨r.v.ownBlock=some g)∧w'.cell? ⟨p,7,none⟩=some wv∧w'.frozen? ⟨p,7,none⟩=false∧∃a n c,v'=.slice a n c)):=by
 obtain⟨a0,n0,k0,lu⟩:=hraw.1.form
 obtain⟨V,hV,jE,aX,axr⟩:=qi iM 4 lq 208 W.drew #[.int .i64 (jL r),.int .i64 r.file,r.v,.int .i64 r.to] 1 [r] rfl rfl (by decide)
 have eG:Below W.heap.size W V:=(below_drewN (Below.refl _ _) 1).trans aX
 have hV1:=h.below eG
 refine⟨V,hV,hV1.c7,hide fun ty=>?_⟩
 obtain⟨v',w',hr,own',gr',at'⟩:=mK (P:=Tryz.prog) 95 ty iM 4 48 lq (by decide) (by decide) (.agg #[.int .i64 0,.int .i64 0,.slice none 0 0,.int .i64 0]) rfl 208 0 Tryz.underlying95 Tryz.ahi wv rs hV1.iK.row _ [r] axr.row (aci [r] fun q hq=>by simp at hq;subst hq;exact hraw.1.form) (by simp;omega) (Nat.zero_le _)
 have out':Out (fun g=>wv.ownBlock=some g) V w':=Out.aP gr' fun g hg=>hg
 have hC':jC w' st.sure (st.wait++[r.r]) s v' (rs++[r]):=hV1.iK.rows own' out' (fun q hq=>by
  rcases List.mem_append.1 hq with hq|hq
  ·exact⟨hV1.iK.raw q hq,hV1.iK.zl q hq⟩
  ·simp at hq
   subst hq
   exact⟨hraw.agree fun b hb=>by obtain⟨_,cs,fr,hc⟩:=hraw.2 b hb;exact eG.block b (aA hc),hra⟩) (by rw[List.map_append,h.iK.wait];rfl)
 have hp':w'.heap[p]? =some (.cells (fG s wv st.on (dR st) st.count) 97 (0,0)):=(out'.block p (aA hV1.blk) fun h1=>(hV1.iK.ne hV1.blk (by decide) (by decide)).2.1 p h1 rfl).trans hV1.blk
 obtain⟨R1,R2⟩:=eH.put (st':=Dm.push st r.r) (s':=s) (wv':=v') (rs':=rs++[r]) hp' 7 v' rfl hC' (arH h.ok hfit)
 refine⟨v',w',hr,⟨_,⟨s,v',rs++[r],R1,rfl⟩,?_,?_⟩,ai hp' 7 rfl,aB hp' 7,?_⟩
 ·have h1:Out (FB p s wv rs) W w':=(Out.of_below eG).trans out' fun g hg=>.inl (.inr (.inr (.inl hg)))
  exact h1.trans R2 fun g hg=>.inl (.inl hg)
 ·rintro g (h1|h1|h1|⟨q,hq,h1⟩)
  ·exact .inl (.inl h1)
  ·exact .inl (.inr (.inl h1))
  ·rcases at' with h2|h2
   ·exact .inl (.inr (.inr (.inl (by rw[←h2];exact h1))))
   ·rw[h1]at h2
    simp at h2
    exact .inr (.inl (by have:=eG.size;omega))
  ·rcases List.mem_append.1 hq with hq|hq
   ·exact .inl (.inr (.inr (.inr ⟨q,hq,h1⟩)))
   ·simp at hq
    subst hq
    exact .inr (.inr h1)
 ·obtain⟨a,c,hv,_⟩:=own'.row.shape
  exact⟨a,_,c,hv⟩
theorem count_tail {p:Nat}{w:World}{st:Dm.Ds}{s:Nat→Value}{wv:Value}{rs:List Rv}(h:eH p w st s wv rs)(hh:st.has=false):
  ∃V,w.setCell ⟨p,8,none⟩ (.int .i64 ((st.count:Int)+1))=V∧eH p V (Dm.dh st) s wv rs∧Out (FB p s wv rs) w V∧V.heap.size=w.heap.size∧∀g,g≠p→V.heap[g]? =w.heap[g]? :=by
 have hb:Dm.dh st={st with count:=st.count+1}:=by simp[Dm.dh,hh]
 obtain⟨R1,R2⟩:=h.set (st':=Dm.dh st) 8 (.int .i64 ((st.count:Int)+1)) (by rw[hb];simp[fG,dR,hh]) (by rw[hb]) (by rw[hb])
 exact⟨_,rfl,R1,R2,by simp[World.setCell],fun g hg=>Below.heap_setCell _ _ _ _ hg⟩
theorem abP {p:Nat}{w:World}{st:Dm.Ds}{s:Nat→Value}{wv:Value}{rs:List Rv}(h:eH p w st s wv rs)(hh:st.has=true)(hl:1≤st.left):
  ∃U V,w.setCell ⟨p,2,none⟩ (.int .i64 ((st.left:Int)-1))=U∧U.setCell ⟨p,8,none⟩ (.int .i64 ((st.count:Int)+1))=V∧U.cell? ⟨p,8,none⟩=some (.int .i64 st.count)∧U.frozen? ⟨p,8,none⟩=false∧eH p V (Dm.dh st) s wv rs∧Out (FB p s wv rs) w V∧V.heap.size=w.heap.size∧∀g,g≠p→V.heap[g]? =w.heap[g]? :=by
 have hb:Dm.dh st={st with left:=st.left-1,count:=st.count+1}:=by simp[Dm.dh,hh]
 have hsub:((st.left-1:Nat):Int)=(st.left:Int)-1:=by omega
 obtain⟨R1,R2⟩:=h.set (st':={st with left:=st.left-1}) 2 (.int .i64 ((st.left:Int)-1)) (by simp[fG,dR,hh,hsub]) rfl rfl
 obtain⟨R3,R4⟩:=R1.set (st':=Dm.dh st) 8 (.int .i64 ((st.count:Int)+1)) (by rw[hb];simp[fG,dR,hh]) (by rw[hb]) (by rw[hb])
 exact⟨_,_,rfl,rfl,R1.c8,R1.kH 8,R3,R2.trans R4 fun g hg=>.inl hg,by simp[World.setCell],fun g hg=>(Below.heap_setCell _ _ _ _ hg).trans (Below.heap_setCell _ _ _ _ hg)⟩
def PDo (p:Nat) (F:Nat→Prop) (w:World) (st':Dm.Ds) (v:Value) (w':World):Prop:=∃F',Pk p F' w' st'∧Out F w w'∧∀g,F' g→F g∨w.heap.size≤g∨v.ownBlock=some g
theorem PDo.aqB {p:Nat}{F:Nat→Prop}{w w':World}{st':Dm.Ds}{v:Value}(h:bT p F w w' st'):PDo p F w st' v w':=by
 obtain⟨F',h1,h2,h3⟩:=h
 exact⟨F',h1,h2,fun g hg=>(h3 g hg).elim .inl fun h=>.inr (.inl h)⟩
theorem ah4 (p:Nat)(F:Nat→Prop)(w:World)(st:Dm.Ds)(r:Rv)(h:Pk p F w st)(hraw:Byt (fun _=>True) w r.v r.bytes)(hra:∀b,r.v.ownBlock=some b→¬F b)(hfit:Dm.fits (Dm.dof st.sure st.wait) r.r)(hlen:st.wait.length≤1000000)(hl:st.left≤9223372036854775807)(hc:st.count<9223372036854775807):
  Calls Tryz.prog 148 #[.pointer (some ⟨p,0,none⟩),.agg #[.int .i64 (jL r),.int .i64 r.file,r.v,.int .i64 r.to]] w fun E w'=>E=.returned (.int .i64 (if Dm.off st then 6 else 0))∧PDo p F w (if Dm.off st then Dm.jq st else Dm.push (Dm.dh st) r.r) r.v w':=by
 obtain⟨s,wv,rs,h,rfl⟩:=h
 obtain⟨a0,n0,k0,lu⟩:=hraw.1.form
 obtain⟨w1,hw1,aT,ak,hB⟩:=au w #[.int .i64 (jL r),.int .i64 r.file,r.v,.int .i64 r.to] 208
 have h1:=h.below ak
 have c1:=h1.c1
 have c2:=h1.c2
 have c8:=h1.c8
 have f1:=h1.kH 1
 have f2:=h1.kH 2
 have f8:=h1.kH 8
 have sD:Byt (fun _=>True) w1 r.v r.bytes:=hraw.agree fun b hb=>by obtain⟨_,cs,fr,hc⟩:=hraw.2 b hb;exact ak.block b (aA hc)
 have zf:∀f,f<4→∀b,r.v.ownBlock=some b→(s f).ownBlock≠some b:=fun f hf b hb h2=>hra b hb (.inr (.inl ⟨f,hf,h2⟩))
 have hnp:∀b,r.v.ownBlock=some b→b≠p:=fun b hb h2=>hra b hb (.inl h2)
 have hpw:p<w.heap.size:=aA h.blk
 have hlr:=h.iK.len
 have atw:jL r=0∨jL r=1:=by unfold jL;split<;>simp
 by_cases hoff:Dm.off st=true
 ·rw[hoff,if_pos rfl,if_pos rfl]
  have hz:dR st=0:=by
   simp[Dm.off]at hoff
   simp[dR,hoff.1,hoff.2]
  obtain⟨R1,R2⟩:=h1.set (st':=Dm.jq st) 1 (.bool false) rfl rfl rfl
  have HR:Hid (PDo p (FB p s wv rs) w (Dm.jq st) r.v (w1.setCell ⟨p,1,none⟩ (.bool false))):=hide (PDo.aqB (bT.pre ak (bT.ajU R1 R2)))
  rw[hz]at c2
  rw[lu]at hw1 HR⊢
  clear h h1 R1 R2 hB hraw sD hra zf hnp hfit hlr hz hoff lu
  go_enter Tryz.func148,Tryz.ntmps148
  go_wp2
  go_ret
  exact⟨rfl,HR.out⟩
 ·have oq:Dm.off st=false:=by simpa using hoff
  rw[oq,if_neg (by simp),if_neg (by simp)]
  cases hh:st.has
  ·have hz:dR st=-1:=by simp[dR,hh]
   obtain⟨W,hW,mH,jP,szW,pO⟩:=count_tail h1 hh
   have hBW:=(pO w.heap.size (by omega)).trans hB
   have x0:W.cell? ⟨w.heap.size,0,none⟩=some (.int .i64 (jL r)):=ai hBW 0 rfl
   have x1:W.cell? ⟨w.heap.size,1,none⟩=some (.int .i64 r.file):=ai hBW 1 rfl
   have x2:W.cell? ⟨w.heap.size,2,none⟩=some r.v:=ai hBW 2 rfl
   have x3:W.cell? ⟨w.heap.size,3,none⟩=some (.int .i64 r.to):=ai hBW 3 rfl
   have hb:(Dm.dh st).sure=st.sure∧(Dm.dh st).wait=st.wait:=⟨rfl,rfl⟩
   obtain⟨V,hV,v7,X⟩:=ach mH r (sD.agree fun b hb=>pO b (hnp b hb)) zf (by rw[hb.1,hb.2];exact hfit) (by omega)
   have X2:Hid (∀ty,∃v' w',(Builtin.append_ #[95,95] ty #[wv,.slice (some ⟨W.heap.size,0,none⟩) 1 1]).run Tryz.prog V=.ok v' w'∧(PDo p (FB p s wv rs) w (Dm.push (Dm.dh st) r.r) r.v (w'.setCell ⟨p,7,none⟩ v')∧w'.cell? ⟨p,7,none⟩=some wv∧w'.frozen? ⟨p,7,none⟩=false∧∃a n c,v'=.slice a n c)):=hide fun ty=>by
    obtain⟨v',w',hr,⟨F',g1,g2,g3⟩,h3⟩:=X.out ty
    refine⟨v',w',hr,⟨F',g1,((Out.of_below ak).trans jP fun g hg=>.inl hg).trans g2 fun g hg=>.inl hg,fun g hg=>?_⟩,h3⟩
    rcases g3 g hg with h4|h4|h4
    ·exact .inl h4
    ·exact .inr (.inl (by omega))
    ·exact .inr (.inr h4)
   have w7:W.cell? ⟨p,7,none⟩=some wv:=mH.c7
   rw[hz]at c2
   rw[lu]at hw1 x2 hV X2⊢
   have hcw:IntKind.i64.wrap ((st.count:Int)+1)=(st.count:Int)+1:=kX _ (by omega) (by omega)
   rcases atw with hk|hk
   ·rw[hk]at hw1 x0 hV⊢
    clear h h1 hB hraw sD hra zf hnp hfit hlr hz hoff oq lu mH jP pO hBW hb X hk hh
    go_enter Tryz.func148,Tryz.ntmps148
    go_wp2_with fail
    go_region_law (refine dY rfl (.tmp 41) (.tmp 43) 95 rfl wv (.slice (some ⟨W.heap.size,0,none⟩) 1 1) (by first|rfl|(simp[Act.eval];done)) (by first|rfl|(simp[Act.eval];done)) X2.out ?_;rintro v5 w5 ⟨J,d7,g7,a5,n5,c5,rfl⟩;have J:=hide J)
    all_goals
     go_wp2
     go_ret
     exact⟨rfl,J.out⟩
   ·rw[hk]at hw1 x0 hV⊢
    clear h h1 hB hraw sD hra zf hnp hfit hlr hz hoff oq lu mH jP pO hBW hb X hk hh
    go_enter Tryz.func148,Tryz.ntmps148
    go_wp2_with fail
    go_region_law (refine dY rfl (.tmp 41) (.tmp 43) 95 rfl wv (.slice (some ⟨W.heap.size,0,none⟩) 1 1) (by first|rfl|(simp[Act.eval];done)) (by first|rfl|(simp[Act.eval];done)) X2.out ?_;rintro v5 w5 ⟨J,d7,g7,a5,n5,c5,rfl⟩;have J:=hide J)
    all_goals
     go_wp2
     go_ret
     exact⟨rfl,J.out⟩
  ·have hl1:1≤st.left:=by
    simp[Dm.off,hh]at hoff
    omega
   have hz:dR st=st.left:=by simp[dR,hh]
   obtain⟨U,W,hU,hW,u8,fu8,mH,jP,szW,pO⟩:=abP h1 hh hl1
   have hBW:=(pO w.heap.size (by omega)).trans hB
   have x0:W.cell? ⟨w.heap.size,0,none⟩=some (.int .i64 (jL r)):=ai hBW 0 rfl
   have x1:W.cell? ⟨w.heap.size,1,none⟩=some (.int .i64 r.file):=ai hBW 1 rfl
   have x2:W.cell? ⟨w.heap.size,2,none⟩=some r.v:=ai hBW 2 rfl
   have x3:W.cell? ⟨w.heap.size,3,none⟩=some (.int .i64 r.to):=ai hBW 3 rfl
   have hb:(Dm.dh st).sure=st.sure∧(Dm.dh st).wait=st.wait:=⟨rfl,rfl⟩
   obtain⟨V,hV,v7,X⟩:=ach mH r (sD.agree fun b hb=>pO b (hnp b hb)) zf (by rw[hb.1,hb.2];exact hfit) (by omega)
   have X2:Hid (∀ty,∃v' w',(Builtin.append_ #[95,95] ty #[wv,.slice (some ⟨W.heap.size,0,none⟩) 1 1]).run Tryz.prog V=.ok v' w'∧(PDo p (FB p s wv rs) w (Dm.push (Dm.dh st) r.r) r.v (w'.setCell ⟨p,7,none⟩ v')∧w'.cell? ⟨p,7,none⟩=some wv∧w'.frozen? ⟨p,7,none⟩=false∧∃a n c,v'=.slice a n c)):=hide fun ty=>by
    obtain⟨v',w',hr,⟨F',g1,g2,g3⟩,h3⟩:=X.out ty
    refine⟨v',w',hr,⟨F',g1,((Out.of_below ak).trans jP fun g hg=>.inl hg).trans g2 fun g hg=>.inl hg,fun g hg=>?_⟩,h3⟩
    rcases g3 g hg with h4|h4|h4
    ·exact .inl h4
    ·exact .inr (.inl (by omega))
    ·exact .inr (.inr h4)
   have w7:W.cell? ⟨p,7,none⟩=some wv:=mH.c7
   rw[hz]at c2
   rw[lu]at hw1 x2 hV X2⊢
   have hcw:IntKind.i64.wrap ((st.count:Int)+1)=(st.count:Int)+1:=kX _ (by omega) (by omega)
   have hlw:IntKind.i64.wrap ((st.left:Int)-1)=(st.left:Int)-1:=kX _ (by omega) (by omega)
   have hl0:((st.left:Int)==0)=false:=beq_eq_false_iff_ne.2 (by omega)
   have hlm:((st.left:Int)==-1)=false:=beq_eq_false_iff_ne.2 (by omega)
   rcases atw with hk|hk
   ·rw[hk]at hw1 x0 hV⊢
    clear h h1 hB hraw sD hra zf hnp hfit hlr hz hoff oq lu mH jP pO hBW hb X hk hh
    go_enter Tryz.func148,Tryz.ntmps148
    go_wp2_with fail
    go_region_law (refine dY rfl (.tmp 41) (.tmp 43) 95 rfl wv (.slice (some ⟨W.heap.size,0,none⟩) 1 1) (by first|rfl|(simp[Act.eval];done)) (by first|rfl|(simp[Act.eval];done)) X2.out ?_;rintro v5 w5 ⟨J,d7,g7,a5,n5,c5,rfl⟩;have J:=hide J)
    all_goals
     go_wp2
     go_ret
     exact⟨rfl,J.out⟩
   ·rw[hk]at hw1 x0 hV⊢
    clear h h1 hB hraw sD hra zf hnp hfit hlr hz hoff oq lu mH jP pO hBW hb X hk hh
    go_enter Tryz.func148,Tryz.ntmps148
    go_wp2_with fail
    go_region_law (refine dY rfl (.tmp 41) (.tmp 43) 95 rfl wv (.slice (some ⟨W.heap.size,0,none⟩) 1 1) (by first|rfl|(simp[Act.eval];done)) (by first|rfl|(simp[Act.eval];done)) X2.out ?_;rintro v5 w5 ⟨J,d7,g7,a5,n5,c5,rfl⟩;have J:=hide J)
    all_goals
     go_wp2
     go_ret
     exact⟨rfl,J.out⟩
end Go.Proofs.YtlmkaljjocflmaaGreatDoor
namespace Go.Proofs.YtlmkaljjocflmaaGreatDoor
open Go.RowKit Go.Shelf
set_option linter.unusedVariables false
theorem anG (st:Dm.Ds)(n:Nat)(hn:n=st.wait.length):({st with sure:=Dm.dof st.sure (st.wait.take n),wait:=st.wait.drop n}:Dm.Ds)=Dm.flush st:=by
 subst hn
 simp[Dm.flush]
theorem ahP (p:Nat)(F:Nat→Prop)(w:World)(st:Dm.Ds)(h:Pk p F w st)(hsz:∀f,(st.sure f).length+Dm.fP st.wait≤140737488355000)(hlen:st.wait.length≤1000000)(hl:st.left≤9223372036854775807)(hc:st.count<9223372036854775807):
  Calls Tryz.prog 148 #[.pointer (some ⟨p,0,none⟩),.agg #[.int .i64 2,.int .i64 0,.slice none 0 0,.int .i64 0]] w fun E w'=>E=.returned (.int .i64 (if Dm.off st then 6 else 0))∧bT p F w w' (if Dm.off st then Dm.jq st else Dm.flush (Dm.dh st)):=by
 obtain⟨s,wv,rs,h,rfl⟩:=h
 obtain⟨w1,hw1,aT,ak,hB⟩:=au w #[.int .i64 2,.int .i64 0,.slice none 0 0,.int .i64 0] 208
 have h1:=h.below ak
 have c1:=h1.c1
 have c2:=h1.c2
 have c8:=h1.c8
 have f1:=h1.kH 1
 have f2:=h1.kH 2
 have f8:=h1.kH 8
 have hpw:p<w.heap.size:=aA h.blk
 have hlr:=h.iK.len
 obtain⟨ao,cap,hv,_,_⟩:=h.iK.row.row.shape
 by_cases hoff:Dm.off st=true
 ·rw[hoff,if_pos rfl,if_pos rfl]
  have hz:dR st=0:=by
   simp[Dm.off]at hoff
   simp[dR,hoff.1,hoff.2]
  obtain⟨R1,R2⟩:=h1.set (st':=Dm.jq st) 1 (.bool false) rfl rfl rfl
  have HR:Hid (bT p (FB p s wv rs) w (w1.setCell ⟨p,1,none⟩ (.bool false)) (Dm.jq st)):=hide (bT.pre ak (bT.ajU R1 R2))
  rw[hz]at c2
  clear h h1 R1 R2 hB hlr hz hoff hv
  go_enter Tryz.func148,Tryz.ntmps148
  go_wp2
  go_ret
  exact⟨rfl,HR.out⟩
 ·have oq:Dm.off st=false:=by simpa using hoff
  rw[oq,if_neg (by simp),if_neg (by simp)]
  have tail:∀W,eH p W (Dm.dh st) s wv rs→Out (FB p s wv rs) w1 W→Hid (Calls Tryz.prog 206 #[.pointer (some ⟨p,0,none⟩),.int .i64 rs.length] W fun E w'=>(∃v,E=.returned v)∧bT p (FB p s wv rs) w w' (Dm.flush (Dm.dh st))):=fun W hP hO=>hide (by
   refine(ahu p _ W (Dm.dh st) rs.length ⟨s,wv,rs,hP,rfl⟩ (by have:(Dm.dh st).wait=st.wait:=rfl;rw[this];omega) hsz hlen).mono ?_
   rintro E w' ⟨hE,hS⟩
   rw[anG _ _ (by have:(Dm.dh st).wait=st.wait:=rfl;rw[this];omega)]at hS
   exact⟨hE,(hS.trans hO fun g hg=>.inl hg).pre ak⟩)
  have hcw:IntKind.i64.wrap ((st.count:Int)+1)=(st.count:Int)+1:=kX _ (by omega) (by omega)
  cases hh:st.has
  ·have hz:dR st=-1:=by simp[dR,hh]
   obtain⟨W,hW,mH,jP,szW,pO⟩:=count_tail h1 hh
   have hBW:=(pO w.heap.size (by omega)).trans hB
   have x0:W.cell? ⟨w.heap.size,0,none⟩=some (.int .i64 2):=ai hBW 0 rfl
   have w7:W.cell? ⟨p,7,none⟩=some wv:=mH.c7
   have T:=tail W mH jP
   rw[hv]at w7
   rw[hz]at c2
   clear h h1 hB hlr hz hoff oq hv mH jP pO hBW hh tail
   go_enter Tryz.func148,Tryz.ntmps148
   go_wp2_with fail
   refine T.out.mono ?_
   rintro E w5 ⟨⟨v5,rfl⟩,J⟩
   have J:=hide J
   go_wp2
   go_ret
   exact⟨rfl,J.out⟩
  ·have hl1:1≤st.left:=by
    simp[Dm.off,hh]at hoff
    omega
   have hz:dR st=st.left:=by simp[dR,hh]
   obtain⟨U,W,hU,hW,u8,fu8,mH,jP,szW,pO⟩:=abP h1 hh hl1
   have hBW:=(pO w.heap.size (by omega)).trans hB
   have x0:W.cell? ⟨w.heap.size,0,none⟩=some (.int .i64 2):=ai hBW 0 rfl
   have w7:W.cell? ⟨p,7,none⟩=some wv:=mH.c7
   have T:=tail W mH jP
   rw[hv]at w7
   rw[hz]at c2
   have hlw:IntKind.i64.wrap ((st.left:Int)-1)=(st.left:Int)-1:=kX _ (by omega) (by omega)
   have hl0:((st.left:Int)==0)=false:=beq_eq_false_iff_ne.2 (by omega)
   have hlm:((st.left:Int)==-1)=false:=beq_eq_false_iff_ne.2 (by omega)
   clear h h1 hB hlr hz hoff oq hv mH jP pO hBW hh tail
   go_enter Tryz.func148,Tryz.ntmps148
   go_wp2_with fail
   refine T.out.mono ?_
   rintro E w5 ⟨⟨v5,rfl⟩,J⟩
   have J:=hide J
   go_wp2
   go_ret
   exact⟨rfl,J.out⟩
theorem agl {α β:Type}(b:Bool)(x y:α)(u v:β):(if b=true then(x,u)else(y,v))=((if b=true then x else y),if b=true then u else v):=by cases b<;>rfl
theorem adX (p:Nat)(F:Nat→Prop)(w:World)(st:Dm.Ds)(h:Pk p F w st)(hsz:∀f,(st.sure f).length+Dm.fP st.wait≤140737488355000)(hlen:st.wait.length≤1000000)(hl:st.left≤9223372036854775807)(hc:st.count<9223372036854775807):
  Calls Tryz.prog 189 #[.pointer (some ⟨p,0,none⟩)] w fun E w'=>E=.returned (.int .i64 (Dm.sync st).1)∧bT p F w w' (Dm.sync st).2:=by
 have HA:=hide (mE p F w st h)
 have HD:=hide (ahP p F w st h hsz hlen hl hc)
 have HK:=hide h
 clear h
 unfold Dm.sync
 cases hon:st.on
 ·rw[if_pos rfl]
  have hk:=wV hon
  clear hon
  go_enter Tryz.func189,Tryz.ntmps189
  go_wp2_with fail
  refine HA.out.mono ?_
  rintro E w1 ⟨rfl,rfl⟩
  rw[hk]
  go_wp2
  go_ret
  exact⟨rfl,bT.same HK.out (Below.refl _ _)⟩
 ·rw[if_neg (by simp),agl]
  have hk:=wH hon
  generalize (if Dm.off st=true then(6:Int)else 0)=e at HD⊢
  generalize (if Dm.off st=true then Dm.jq st else Dm.flush (Dm.dh st))=st' at HD⊢
  clear hon
  go_enter Tryz.func189,Tryz.ntmps189
  go_wp2_with fail
  refine HA.out.mono ?_
  rintro E w1 ⟨rfl,rfl⟩
  rw[hk]
  go_wp2_with fail
  refine HD.out.mono ?_
  rintro E w2 ⟨rfl,J⟩
  have J:=hide J
  go_wp2
  go_ret
  exact⟨rfl,J.out⟩
def lN (st:Dm.Ds) (file:Int):Int:=if st.on=false then 6 else if Dm.jR file=false then 2 else 0
def qz (st:Dm.Ds) (file:Int):List Int:=if st.on=false then []else if Dm.jR file=false then []else Dm.hold file.toNat (st.sure file.toNat) st.wait
theorem agX {file:Int}(h:Dm.jR file=true):∃f:Nat,f<4∧file=f:=by
 simp[Dm.jR]at h
 exact⟨file.toNat,by omega,by omega⟩
theorem mV (p:Nat)(F:Nat→Prop)(w:World)(st:Dm.Ds)(file:Int)(h:Pk p F w st)(hsz:∀f,(st.sure f).length+Dm.fP st.wait≤140737488355000)(hlen:st.wait.length≤1000000):
  Calls Tryz.prog 175 #[.pointer (some ⟨p,0,none⟩),.int .i64 file] w fun E w'=>∃v,E=.returned (.tuple #[v,.int .i64 (lN st file)])∧Own .u8 5 w.heap.size w' v (qz st file)∧Below w.heap.size w w':=by
 have HA:=hide (mE p F w st h)
 have HF:=hide (sN file w)
 cases hon:st.on
 ·have e1:lN st file=6:=by simp[lN,hon]
  have e2:qz st file=[]:=by simp[qz,hon]
  rw[e1,e2]
  have hk:=wV hon
  clear hon h e1 e2
  go_enter Tryz.func175,Tryz.ntmps175
  go_wp2_with fail
  refine HA.out.mono ?_
  rintro E w1 ⟨rfl,rfl⟩
  rw[hk]
  go_wp2
  refine bodyPost_ret (results_tmp2 rfl _ _ _) rfl ?_
  exact⟨_,rfl,Own.nil _ _ _ _,Below.refl _ _⟩
 ·have hk:=wH hon
  cases hin:Dm.jR file
  ·have e1:lN st file=2:=by simp[lN,hon,hin]
   have e2:qz st file=[]:=by simp[qz,hon,hin]
   rw[e1,e2]
   rw[hin]at HF
   clear hon h e1 e2 hin
   go_enter Tryz.func175,Tryz.ntmps175
   go_wp2_with fail
   refine HA.out.mono ?_
   rintro E w1 ⟨rfl,rfl⟩
   rw[hk]
   go_wp2_with fail
   refine HF.out.mono ?_
   rintro E w1 ⟨rfl,rfl⟩
   go_wp2
   refine bodyPost_ret (results_tmp2 rfl _ _ _) rfl ?_
   exact⟨_,rfl,Own.nil _ _ _ _,Below.refl _ _⟩
  ·obtain⟨f,hf,rfl⟩:=agX hin
   have e1:lN st f=0:=by simp[lN,hon,hin]
   have e2:qz st f=Dm.hold f (st.sure f) st.wait:=by simp[qz,hon,hin]
   rw[e1,e2]
   rw[hin]at HF
   have HH:=hide (anS p F w st f h hf (hsz f) hlen)
   clear hon h e1 e2 hin
   go_enter Tryz.func175,Tryz.ntmps175
   go_wp2_with fail
   refine HA.out.mono ?_
   rintro E w1 ⟨rfl,rfl⟩
   rw[hk]
   go_wp2_with fail
   refine HF.out.mono ?_
   rintro E w1 ⟨rfl,rfl⟩
   go_wp2_with fail
   refine HH.out.mono ?_
   rintro E w2 ⟨v2,rfl,aY,az⟩
   go_wp2
   refine bodyPost_ret (results_tmp2 rfl _ _ _) rfl ?_
   exact⟨_,rfl,aY,az⟩
end Go.Proofs.YtlmkaljjocflmaaGreatDoor
