/- Texts of one layer, one behind the other. -/
import Derived.Test.YtlmkaljjocflmaaGreatDoorAH4
import Derived.Test.YtlmkaljjocflmaaGreatDoorAH2
import Derived.Test.YtlmkaljjocflmaaGreatDoorAG1
import Derived.Laws.StructEq
import Derived.Test.YtlmkaljjocflmaaGreatDoorAH1
set_option maxRecDepth 100000
set_option maxHeartbeats 8000000
namespace Go.Proofs.YtlmkaljjocflmaaGreatDoor
open Go.RowKit
set_option linter.unusedVariables false
structure Cw where
 e:Int
 n:Int
 v:Value
 l:List Bm.Ov
def Cw.c (c:Cw):Cm.Cv:=⟨c.e,c.n,c.l⟩
def aH (r:List Cw):List Cm.Cv:=r.map Cw.c
def dF (e n:Int) (v:Value):Value:=.agg #[.int .i64 e,.int .i64 n,v]
def jh (c:Cw):List Value:=[.int .i64 c.e,.int .i64 c.n,c.v]
def ccells:List Cw→List Value
 |[]=>[]
 |c::r=>jh c++ccells r
theorem lL:∀(l:List Cw),(ccells l).length=l.length*3
 |[]=>rfl
 |o::r=>by
  have:=lL r
  simp only[ccells,jh,List.length_append,List.length_cons,List.length_nil]
  omega
theorem nX:∀(l m:List Cw),ccells (l++m)=ccells l++ccells m
 |[],_=>rfl
 |o::l,m=>by simp only[List.cons_append,ccells,nX l m,List.append_assoc]
theorem ky:∀(l:List Cw),(∀c∈l,c.v.oneCell'=true)→∀u∈ccells l,u.oneCell'=true
 |[],_,u,h=>by simp[ccells]at h
 |o::r,hv,u,h=>by
  rcases List.mem_append.1 h with h|h
  ·simp only[jh,List.mem_cons,List.not_mem_nil,or_false]at h
   rcases h with rfl|rfl|rfl
   ·rfl
   ·rfl
   ·exact hv o (List.mem_cons_self ..)
  ·exact ky r (fun c hc=>hv c (List.mem_cons_of_mem _ hc)) u h
theorem qh:∀(l:List Cw) (i:Nat) (hi:i<l.length),(ccells l)[i*3]? =some (.int .i64 l[i].e)∧(ccells l)[i*3+1]? =some (.int .i64 l[i].n)∧(ccells l)[i*3+2]? =some l[i].v
 |[],_,hi=>by simp at hi
 |o::r,0,hi=>by simp[ccells,jh]
 |o::r,i+1,hi=>by
  have:=qh r i (by simpa using hi)
  simp only[ccells,jh]
  rw[show(i+1)*3=i*3+3 by omega]
  simpa[List.getElem?_append]using this
theorem xP:∀(l:List Cw) (p:Nat),ccells (l.take p)=(ccells l).take (p*3)
 |[],p=>by simp[ccells]
 |o::l,0=>by simp[ccells]
 |o::l,p+1=>by
  rw[List.take_succ_cons,show(p+1)*3=p*3+3 by omega]
  simp[ccells,jh,xP l p]
theorem xV:∀(l:List Cw) (p:Nat),ccells (l.drop p)=(ccells l).drop (p*3)
 |[],p=>by simp[ccells]
 |o::l,0=>by simp[ccells]
 |o::l,p+1=>by
  rw[List.drop_succ_cons,show(p+1)*3=p*3+3 by omega]
  simp[ccells,jh,xV l p]
theorem dz.one {w:World}{v:Value}{l:List Bm.Ov}(h:dz w v l):v.oneCell'=true:=by
 obtain⟨ao,cap,rfl,_⟩:=h.shape
 rfl
def In64 (x:Int):Prop:=-9223372036854775808≤x∧x<9223372036854775808
def InC (w:World) (r:List Cw):Prop:=∀c∈r,dz w c.v c.l∧In64 c.e∧In64 c.n
def jr (r:List Cw):Prop:=∀c∈r,fZ c.l∧c.l.length*40≤140737488351232
theorem InC.below {w w':World}{r:List Cw}(h:InC w r)(hb:Below w.heap.size w w'):InC w' r:=fun c hc=>⟨(h c hc).1.below hb,(h c hc).2⟩
def dU (w:World) (v:Value) (r:List Cw):Prop:=
 (v=.slice none 0 0∧r=[])∨∃ad cap,v=.slice (some ad) r.length cap∧r.length≤cap∧cap≤maxLen∧∀j u,(ccells r)[j]? =some u→w.cell? (ad.add j)=some u
def iy (w:World) (v:Value) (r:List Cw):Prop:=dU w v r∧InC w r
def bK (e:TypeId) (base:Nat) (w:World) (v:Value) (r:List Cw):Prop:=w.ownsRow base e 3 v r.length (ccells r)
theorem dU.nil (w:World):dU w (.slice none 0 0) []:=.inl ⟨rfl,rfl⟩
theorem iy.nil (w:World):iy w (.slice none 0 0) []:=⟨dU.nil w,fun c hc=>by simp at hc⟩
theorem bK.nil (e:TypeId)(base:Nat)(w:World):bK e base w (.slice none 0 0) []:=World.ownsRow_nil _ _ _ _
theorem dU.below {w w':World}{v:Value}{l:List Cw}(h:dU w v l)(hb:Below w.heap.size w w'):dU w' v l:=by
 rcases h with h|⟨ad,cap,hv,h1,h2,hc⟩
 ·exact .inl h
 ·refine .inr ⟨ad,cap,hv,h1,h2,fun j u hj=>?_⟩
  have:=hc j u hj
  rw[hb.cell (World.block_lt_of_cell? _ _ this)]
  exact this
theorem iy.below {w w':World}{v:Value}{l:List Cw}(h:iy w v l)(hb:Below w.heap.size w w'):iy w' v l:=⟨h.1.below hb,h.2.below hb⟩
theorem dU.shape {w:World}{v:Value}{l:List Cw}(h:dU w v l):∃ao cap,v=.slice ao l.length cap∧l.length≤cap∧cap≤maxLen:=by
 rcases h with⟨hv,e⟩|⟨ad,cap,hv,h1,h2,_⟩
 ·subst e;exact⟨none,0,hv,by simp,by simp⟩
 ·exact⟨some ad,cap,hv,h1,h2⟩
theorem dU.full {w:World}{v:Value}{l:List Cw}(h:dU w v l)(hne:0<l.length):
  ∃b off cap,v=.slice (some ⟨b,off,none⟩) l.length cap∧l.length≤cap∧cap≤maxLen∧b<w.heap.size∧
   ∀i c,l[i]? =some c→w.cell? ⟨b,off+i*3,none⟩=some (.int .i64 c.e)∧w.cell? ⟨b,off+i*3+1,none⟩=some (.int .i64 c.n)∧w.cell? ⟨b,off+i*3+2,none⟩=some c.v:=by
 rcases h with⟨_,h⟩|⟨⟨b,off,spot⟩,cap,hv,h1,h2,hc⟩
 ·subst h;simp at hne
 ·have h0:=hc 0 _ (qh l 0 hne).1
  have hspot:spot=none:=by simpa[Addr.add]using World.cell?_spot h0
  subst hspot
  refine⟨b,off,cap,hv,h1,h2,World.block_lt_of_cell? _ _ h0,fun i o nV=>?_⟩
  obtain⟨hi,rfl⟩:=List.getElem?_eq_some_iff.1 nV
  obtain⟨g1,g2,g3⟩:=qh l i hi
  have k1:=hc _ _ g1
  have k2:=hc _ _ g2
  have k3:=hc _ _ g3
  rw[gq]at k1 k2 k3
  exact⟨k1,by rw[Nat.add_assoc];exact k2,by rw[Nat.add_assoc];exact k3⟩
theorem bK.row {e base:Nat}{w:World}{v:Value}{l:List Cw}(h:bK e base w v l):dU w v l:=by
 rcases h.2 with⟨hv,hn⟩|⟨g,cap,cur,hv,h1,hh,hc,hm,hs,ht⟩
 ·exact .inl ⟨hv,List.eq_nil_of_length_eq_zero hn⟩
 ·refine .inr ⟨⟨g,0,none⟩,cap,hv,hc,hm,fun j u hj=>?_⟩
  exact h.cells (by rw[hv];rfl) j u hj
theorem akk {e base size n:Nat}{w w':World}{v:Value}{xs:List Value}(h:w.ownsRow base e size v n xs)(hb:Below w.heap.size w w'):w'.ownsRow base e size v n xs:=by
 refine⟨h.1,?_⟩
 rcases h.2 with h|⟨g,cap,cur,hv,h1,hh,r⟩
 ·exact .inl h
 ·refine .inr ⟨g,cap,cur,hv,h1,?_,r⟩
  rw[hb.block g (Array.getElem?_eq_some_iff.1 hh).1]
  exact hh
theorem bK.below {e base:Nat}{w w':World}{v:Value}{l:List Cw}(h:bK e base w v l)(hb:Below w.heap.size w w'):bK e base w' v l:=akk h hb
theorem mZ (e:TypeId)(w:World)(cs:Array Value)(n:Nat)(l:List Cw)(hn:l.length=n)(h:cs.toList=ccells l)(hm:n≤maxLen):
  ∃W,w.alloc (.cells cs e)=W∧W.heap.size=w.heap.size+1∧Below w.heap.size w W∧bK e w.heap.size W (.slice (some ⟨w.heap.size,0,none⟩) n n) l:=by
 subst hn
 refine⟨_,rfl,by simp,(Below.refl _ _).alloc (Nat.le_refl _) _,?_⟩
 have ho:=World.ownsRow_lit (base:=w.heap.size) (e:=e) (size:=3) w cs l.length (Nat.le_refl _) hm (by have:=congrArg List.length h;rw[lL]at this;simpa using this)
 rw[h]at ho
 exact ho
theorem bH.zX {e base size n:Nat}{w w':World}{v:Value}{xs:List Value}(h:w.ownsRow base e size v n xs)(hg:w.grownBy w' v.ownBlock):bH e w w':=by
 intro g cs t fr hc ht
 refine(hg.block g (aA hc) fun e1=>?_).trans hc
 rcases h.2 with⟨rfl,_⟩|⟨g',cap,cur,rfl,_,hh,_⟩
 ·simp[Value.ownBlock]at e1
 ·simp[Value.ownBlock]at e1
  subst e1
  rw[hh]at hc
  simp at hc
  exact ht hc.2.1.symm
theorem bu.p9 {e e' base:Nat}{w w':World}{v:Value}{l:List Bm.Ov}(h:bu e base w v l)(k:bH e' w w')(hne:e≠e'):bu e base w' v l:=by
 refine⟨h.1,?_⟩
 rcases h.2 with h|⟨g,cap,cur,hv,h1,hh,r⟩
 ·exact .inl h
 ·exact .inr ⟨g,cap,cur,hv,h1,k _ _ _ _ hh hne,r⟩
section
variable {P:Program} {w:World} {ops:Array Oper} {rest:List Oper} {o:Oper} {a:Act} {Q:Exit→Act→World→Prop}
theorem vV (hgd:o.guard=none)(s x:Operand)(t:TypeId)
  (ho:o.op=.call {callee:=.builtin .append,args:=#[s,x],argTypes:=#[t,t]})
  (e:TypeId) (base:Nat) (ht:P.underlying t=some (.slice e)) (hinfo:(P.info? e).map (fun i=>(i.zero,i.size,i.bytes))=some (some (.agg #[.int .i64 0,.int .i64 0,.slice none 0 0]),3,40))
  (v:Value) (l:List Cw) (hs:a.eval s=v) (hown:bK e base w v l) (vx:Value) (m:List Cw) (hx:a.eval x=vx) (his:dU w vx m) (hone:∀c∈m,c.v.oneCell'=true)
  (hlen:(l.length+m.length)*40≤140737488355328) (hbase:base≤w.heap.size)
  (h:∀v' w',bK e base w' v' (l++m)→Below base w w'→bH e w w'→wpList P ops Q rest (a.put o.dst v') w'):wpList P ops Q (o::rest) a w:=by
 obtain⟨i,hi,hz,hsize,hb⟩:=info_parts hinfo
 have hn:l.length+m.length≤140737488355328:=by omega
 rcases his with⟨hv,hy⟩|⟨ad,cap,hv,h1,h2,hc⟩
 ·subst hy
  refine wpList_append_own_none hgd s x t ho base e i 3 ht hi v l.length _ hs hown (hx.trans hv) (h v w (by simpa using hown) (Below.refl _ _) (bH.refl _ _))
 ·refine wpList_append_own w hgd s x t ho base e i _ 3 40 ht hi hz hsize hb rfl (by decide) v l.length _ hs hown ad m.length cap (ccells m) (hx.trans hv) (lL m) hc (ky m hone) (by unfold maxLen;omega) hlen hbase ?_
  intro v' w' ho' hg _
  refine h v' w' (by unfold bK;rw[nX,List.length_append];exact ho') ((Below.refl _ _).grown hg hbase fun k' hk=>?_) (bH.zX hown hg)
  exact(World.ownsRow.lt hown k' hk).1
variable {v:Value}
theorem dU.kY {l:List Cw}(h:dU w v l){t:TypeId}(ht:P.underlying t=some (.slice (P.elem t)))(hs:∀wx,(sizeOf (P.elem t)).run P wx=.ok 3 wx)(p:Nat)(hp:p≤l.length):
  ∃vs,(∀wx,(Instr.slice t v none (some (.int .i64 p)) none).run P wx=.ok vs wx)∧dU w vs (l.take p):=by
 obtain⟨ao,cap,rfl,hcap,hm⟩:=h.shape
 refine⟨.slice ao p cap,fun wx=>?_,?_⟩
 ·rw[run_slice_h wx t ao l.length cap ht .i64 _ (by omega) (by omega),hs]
  simp only[Result.andThen,sliced]
  cases ao<;>simp[Addr.add]
 ·cases ao with
  |none=>
   rcases h with⟨hv,e⟩|⟨ad,cap',hv,_⟩
   ·subst e
    simp at hp hv
    subst hp hv
    exact dU.nil _
   ·simp at hv
  |some ad=>
   have hl:(l.take p).length=p:=by rw[List.length_take];omega
   rcases h with⟨hv,_⟩|⟨ad',cap',hv,h1,h2,hc⟩
   ·simp at hv
   ·simp at hv
    obtain⟨rfl,rfl⟩:=hv
    refine .inr ⟨ad,cap,by rw[hl],by omega,h2,fun j u hj=>hc j u ?_⟩
    rw[xP,List.getElem?_take]at hj
    split at hj
    ·exact hj
    ·simp at hj
theorem dU.iN {l:List Cw}(h:dU w v l){t:TypeId}(ht:P.underlying t=some (.slice (P.elem t)))(hs:∀wx,(sizeOf (P.elem t)).run P wx=.ok 3 wx)(p:Nat)(hp:p<l.length):
  ∃vs,(∀wx,(Instr.slice t v (some (.int .i64 p)) none none).run P wx=.ok vs wx)∧dU w vs (l.drop p):=by
 obtain⟨b,off,cap,rfl,hcap,hm,hB,hcell⟩:=h.full (by omega)
 refine⟨.slice (some ⟨b,off+p*3,none⟩) (l.length-p) (cap-p),fun wx=>?_,?_⟩
 ·rw[run_slice_l wx t _ l.length cap ht .i64 _ (by omega) (by omega),hs]
  have hne:¬cap=p:=by omega
  simp[Result.andThen,sliced,hne,gq]
 ·rcases h with⟨hv,_⟩|⟨ad',cap',hv,h1,h2,hc⟩
  ·simp at hv
  ·simp at hv
   obtain⟨rfl,rfl⟩:=hv
   refine .inr ⟨⟨b,off+p*3,none⟩,cap-p,by simp,by simp;omega,by omega,fun j u hj=>?_⟩
   rw[xV,List.getElem?_drop]at hj
   have:=hc _ _ hj
   rw[gq]at this⊢
   rw[Nat.add_assoc]
   exact this
end
theorem Tryz.aaF:(Tryz.prog.info? 35).map (fun i=>(i.zero,i.size,i.bytes))=some (some (.agg #[.int .i64 0,.int .i64 0,.slice none 0 0]),3,40):=by kernel_rfl
theorem Tryz.adJ:Tryz.prog.underlying 22=some (.slice (Tryz.prog.elem 22)):=by kernel_rfl
theorem Tryz.adp (wx:World):(sizeOf (Tryz.prog.elem 22)).run Tryz.prog wx=.ok 3 wx:=by kernel_rfl
theorem Tryz.alg (op:BinOp)(x y:Operand)(xs ys:Array Value)(w:World):(eqGuard op 71 x y (.agg xs) (.agg ys)).run Tryz.prog w=.ok () w:=run_eqGuard_agg w op 71 x y xs ys (by kernel_rfl)
theorem Tryz.auJ (o q:Bm.Ov)(w:World):(binOp .neq 71 (.agg #[.bool o.p,.string o.k,.string o.v]) (.agg #[.bool q.p,.string q.k,.string q.v])).run Tryz.prog w=.ok (.bool (!Bm.eqO o q)) w:=by
 rw[run_neq_struct,run_equalIn_agg w 9999 71 _ _ (by kernel_rfl) (by kernel_rfl)]
 unfold Program.fieldsOf
 rw[Tryz.underlying71]
 simp[Op.eqFields,go_sem,Tryz.underlying4,Tryz.underlying9]
 unfold Bm.eqO Bm.Ov.kl Bm.Ov.vl
 simp only[Lib.toList_data]
 by_cases h1:o.p=q.p<;>by_cases h2:o.k.data.toList=q.k.data.toList<;>by_cases h3:o.v.data.toList=q.v.data.toList<;>simp[h1,h2,h3]
theorem avk (va vb:Value)(xs ys:List Bm.Ov)(w:World)(ha:dz w va xs)(hb:dz w vb ys)(hl:xs.length≤140737488355328)(hl':ys.length≤140737488355328):
  Calls Tryz.prog 92 #[va,vb] w fun e w'=>e=.returned (.bool (Bm.sameL xs ys))∧∃m,w'=w.drewN m:=by
 by_cases hne:xs.length=ys.length
 ·by_cases hz:0<xs.length
  ·obtain⟨b1,o1,c1,rfl,_,_,hB1,hc1⟩:=ha.full hz
   obtain⟨b2,o2,c2,rfl,_,_,hB2,hc2⟩:=hb.full (by omega)
   have ht:((xs.length:Int) !=(ys.length:Int))=false:=by simp;omega
   have HL:=hide hne
   have uF:=hide hc1
   have HC2:=hide hc2
   clear hne ha hb hc1 hc2
   generalize hn:xs.length=n at*
   generalize hm:ys.length=m at*
   have HN:=hide hn
   have HM:=hide hm
   clear hn hm
   go_enter Tryz.func92,Tryz.ntmps92
   go_wp2
   go_loopw [5] (fun i wr=>∃(k:Nat),k≤n∧i=.int .i64 k∧Hid (xs.take k=ys.take k)∧∃m,wr=w.drewN m) (fun i _=>n-(intOf i).toNat)
   case atStart=>exact⟨0,by omega,rfl,hide rfl,0,rfl⟩
   case round=>
    obtain⟨k,hk,rfl,HT,mm,rfl⟩:=hrel
    by_cases hlt:k<n
    ·obtain⟨o,ho⟩:∃o,xs[k]? =some o:=⟨xs[k]'(by have:=HN.out;omega),by rw[List.getElem?_eq_getElem]⟩
     obtain⟨q,hq⟩:∃q,ys[k]? =some q:=⟨ys[k]'(by have:=HM.out;have:=HL.out;omega),by rw[List.getElem?_eq_getElem]⟩
     obtain⟨d0,d1,d2⟩:=uF.out k o ho
     obtain⟨e0,e1,e2⟩:=HC2.out k q hq
     have hlt':(k:Int)<n:=by omega
     have hlt2:(k:Int)<m:=by have:=HL.out;omega
     have HO:=hide ho
     have HQ:=hide hq
     clear ho hq
     have hnq:=Tryz.auJ o q
     have hgd:=Tryz.alg
     cases hoq:Bm.eqO o q
     ·have HS:Hid (Bm.sameL xs ys=false):=hide (Bm.sH fun e=>by
       have h1:=HO.out
       rw[e,HQ.out]at h1
       rw[Bm.qU.2 (Option.some.inj h1.symm)]at hoq
       simp at hoq)
      rw[hoq]at hnq
      clear hoq
      go_wp2
      go_quiet (fail)
      go_wp2
      go_ret
      refine⟨?_,_,World.drewN_drewN _ _ _⟩
      rw[HS.out]
      rfl
     ·have HT2:Hid (xs.take (k+1)=ys.take (k+1)):=hide (by
       rw[List.take_add_one,List.take_add_one,HT.out,HO.out,HQ.out,Bm.qU.1 hoq])
      rw[hoq]at hnq
      clear hoq
      go_wp2
      go_quiet (fail)
      go_wp2
      go_roundw
      case rel=>exact⟨k+1,by omega,by go_num,HT2,_,rfl⟩
      case measure=>simp[intOf];omega
    ·have hlt':¬(k:Int)<n:=by omega
     have HS:Hid (Bm.sameL xs ys=true):=hide (Bm.nC.2 (by
      have h1:=HT.out
      rw[List.take_of_length_le (by have:=HN.out;omega),List.take_of_length_le (by have:=HN.out;have:=HM.out;have:=HL.out;omega)]at h1
      exact h1))
     go_wp2
     go_ret
     refine⟨?_,mm,rfl⟩
     rw[HS.out]
     rfl
  ·have hx:xs=[]:=List.eq_nil_of_length_eq_zero (by omega)
   have hy:ys=[]:=List.eq_nil_of_length_eq_zero (by omega)
   subst hx hy
   obtain⟨a1,c1,rfl⟩:=ha.bare
   obtain⟨a2,c2,rfl⟩:=hb.bare
   clear hl hl' hne hz ha hb
   go_enter Tryz.func92,Tryz.ntmps92
   go_wp2
   refine wp_loop_rounds 1 ?_
   rw[rounds_succ]
   go_wp2
   go_ret
   exact⟨by simp[Bm.sameL],0,rfl⟩
 ·obtain⟨a1,c1,rfl,_,_⟩:=ha.shape
  obtain⟨a2,c2,rfl,_,_⟩:=hb.shape
  have ht:((xs.length:Int) !=(ys.length:Int))=true:=by simp;omega
  have HX:Hid (Bm.sameL xs ys=false):=hide (Bm.sH fun h=>hne (by rw[h]))
  clear hne
  go_enter Tryz.func92,Tryz.ntmps92
  go_wp2
  go_ret
  exact⟨by rw[HX.out];rfl,0,rfl⟩
theorem aeO (va vb:Value)(xs ys:List Bm.Ov)(w:World)(ha:dz w va xs)(hb:dz w vb ys)(hl:xs.length≤140737488355328)(hl':ys.length≤140737488355328):
  Calls Tryz.prog 325 #[va,vb] w fun e w'=>e=.returned (.bool (Bm.sameL xs ys))∧∃m,w'=w.drewN m:=by
 by_cases hne:xs.length=ys.length
 ·by_cases hz:0<xs.length
  ·obtain⟨b1,o1,c1,rfl,_,_,hB1,hc1⟩:=ha.full hz
   obtain⟨b2,o2,c2,rfl,_,_,hB2,hc2⟩:=hb.full (by omega)
   have ht:((xs.length:Int) !=(ys.length:Int))=false:=by simp;omega
   have HL:=hide hne
   have uF:=hide hc1
   have HC2:=hide hc2
   clear hne ha hb hc1 hc2
   generalize hn:xs.length=n at*
   generalize hm:ys.length=m at*
   have HN:=hide hn
   have HM:=hide hm
   clear hn hm
   go_enter Tryz.func325,Tryz.ntmps325
   go_wp2
   go_loopw [13] (fun i wr=>∃(k:Nat),k≤n∧i=.int .i64 k∧Hid (xs.take k=ys.take k)∧∃m,wr=w.drewN m) (fun i _=>n-(intOf i).toNat)
   case atStart=>exact⟨0,by omega,rfl,hide rfl,0,rfl⟩
   case round=>
    obtain⟨k,hk,rfl,HT,mm,rfl⟩:=hrel
    by_cases hlt:k<n
    ·obtain⟨o,ho⟩:∃o,xs[k]? =some o:=⟨xs[k]'(by have:=HN.out;omega),by rw[List.getElem?_eq_getElem]⟩
     obtain⟨q,hq⟩:∃q,ys[k]? =some q:=⟨ys[k]'(by have:=HM.out;have:=HL.out;omega),by rw[List.getElem?_eq_getElem]⟩
     obtain⟨d0,d1,d2⟩:=uF.out k o ho
     obtain⟨e0,e1,e2⟩:=HC2.out k q hq
     have hlt':(k:Int)<n:=by omega
     have hlt2:(k:Int)<m:=by have:=HL.out;omega
     have HO:=hide ho
     have HQ:=hide hq
     clear ho hq
     have hnq:=Tryz.auJ o q
     have hgd:=Tryz.alg
     cases hoq:Bm.eqO o q
     ·have HS:Hid (Bm.sameL xs ys=false):=hide (Bm.sH fun e=>by
       have h1:=HO.out
       rw[e,HQ.out]at h1
       rw[Bm.qU.2 (Option.some.inj h1.symm)]at hoq
       simp at hoq)
      rw[hoq]at hnq
      clear hoq
      go_wp2
      go_quiet (fail)
      go_wp2
      go_ret
      refine⟨?_,_,World.drewN_drewN _ _ _⟩
      rw[HS.out]
      rfl
     ·have HT2:Hid (xs.take (k+1)=ys.take (k+1)):=hide (by
       rw[List.take_add_one,List.take_add_one,HT.out,HO.out,HQ.out,Bm.qU.1 hoq])
      rw[hoq]at hnq
      clear hoq
      go_wp2
      go_quiet (fail)
      go_wp2
      go_roundw
      case rel=>exact⟨k+1,by omega,by go_num,HT2,_,rfl⟩
      case measure=>simp[intOf];omega
    ·have hlt':¬(k:Int)<n:=by omega
     have HS:Hid (Bm.sameL xs ys=true):=hide (Bm.nC.2 (by
      have h1:=HT.out
      rw[List.take_of_length_le (by have:=HN.out;omega),List.take_of_length_le (by have:=HN.out;have:=HM.out;have:=HL.out;omega)]at h1
      exact h1))
     go_wp2
     go_ret
     refine⟨?_,mm,rfl⟩
     rw[HS.out]
     rfl
  ·have hx:xs=[]:=List.eq_nil_of_length_eq_zero (by omega)
   have hy:ys=[]:=List.eq_nil_of_length_eq_zero (by omega)
   subst hx hy
   obtain⟨a1,c1,rfl⟩:=ha.bare
   obtain⟨a2,c2,rfl⟩:=hb.bare
   clear hl hl' hne hz ha hb
   go_enter Tryz.func325,Tryz.ntmps325
   go_wp2
   refine wp_loop_rounds 1 ?_
   rw[rounds_succ]
   go_wp2
   go_ret
   exact⟨by simp[Bm.sameL],0,rfl⟩
 ·obtain⟨a1,c1,rfl,_,_⟩:=ha.shape
  obtain⟨a2,c2,rfl,_,_⟩:=hb.shape
  have ht:((xs.length:Int) !=(ys.length:Int))=true:=by simp;omega
  have HX:Hid (Bm.sameL xs ys=false):=hide (Bm.sH fun h=>hne (by rw[h]))
  clear hne
  go_enter Tryz.func325,Tryz.ntmps325
  go_wp2
  go_ret
  exact⟨by rw[HX.out];rfl,0,rfl⟩
theorem aim (va vb:Value)(xs ys:List Bm.Ov)(w:World)(ha:dz w va xs)(hb:dz w vb ys)(hl:xs.length≤140737488355328)(hl':ys.length≤140737488355328):
  Calls Tryz.prog 325 #[va,vb] w fun e w'=>e=.returned (.bool (Bm.sameL xs ys))∧Below w.heap.size w w':=
 (aeO va vb xs ys w ha hb hl hl').mono (by rintro e w' ⟨rfl,m,rfl⟩;exact⟨rfl,below_drewN (Below.refl _ _) m⟩)
theorem akq (va vb:Value)(xs ys:List Bm.Ov)(w:World)(ha:dz w va xs)(hb:dz w vb ys)(hl:xs.length≤140737488355328)(hl':ys.length≤140737488355328):
  Calls Tryz.prog 300 #[va,vb] w fun e w'=>e=.returned (.bool (Bm.sameL xs ys))∧Below w.heap.size w w':=by
 go_enter Tryz.func300,Tryz.ntmps300
 go_wp2_with fail
 refine(aim va vb xs ys _ ha hb hl hl').mono ?_
 rintro E w1 ⟨rfl,ak⟩
 go_wp2
 go_ret
 exact⟨rfl,ak⟩
def behind:Bm.Ov:=⟨true,⟨#[98,101,104,105,110,100]⟩,⟨#[]⟩⟩
section
variable {P:Program} {w:World}
theorem vI (t ty e:TypeId)(base:Nat)(ht:P.underlying t=some (.slice e))(hinfo:(P.info? e).map (fun i=>(i.zero,i.size,i.bytes))=some (some (.agg #[.int .i64 0,.int .i64 0,.slice none 0 0]),3,40))
  (v:Value) (l:List Cw) (hown:bK e base w v l) (vx:Value) (m:List Cw) (his:dU w vx m) (hone:∀c∈m,c.v.oneCell'=true) (hlen:(l.length+m.length)*40≤140737488355328) (hbase:base≤w.heap.size):
  ∃v' w',(Builtin.append_ #[t,t] ty #[v,vx]).run P w=.ok v' w'∧bK e base w' v' (l++m)∧w.grownBy w' v.ownBlock∧(v'.ownBlock=v.ownBlock∨v'.ownBlock=some w.heap.size):=by
 obtain⟨i,hi,hz,hsize,hb⟩:=info_parts hinfo
 rcases his with⟨hv,hy⟩|⟨ad,cap,hv,h1,h2,hc⟩
 ·subst hy hv
  have hrun:=run_append_owned_none (P:=P) (w:=w) base t ty e i 3 ht hi v l.length _ hown
  exact⟨v,w,hrun,by simpa using hown,World.grownBy.refl _ _,.inl rfl⟩
 ·subst hv
  obtain⟨v',w',hr,h3,h4,_,h5⟩:=run_append_own_at (P:=P) w base t ty e i _ 3 40 ht hi hz hsize hb rfl (by decide) v l.length _ hown ad m.length cap (ccells m) (lL m) hc (ky m hone) (by unfold maxLen;omega) hlen hbase
  exact⟨v',w',hr,by unfold bK;rw[nX,List.length_append];exact h3,h4,h5⟩
end
theorem xg {V:World}{R:Nat}{t:TypeId}{x y z:Value}(hR:V.heap[R]? =some (.cells #[x,y,z] t (0,0)))(c:Value):
  ∃V',V.setCell ⟨R,2,none⟩ c=V'∧V'.heap[R]? =some (.cells #[x,y,c] t (0,0))∧V.grownBy V' (some R)∧V.cell? ⟨R,2,none⟩=some z∧V.frozen? ⟨R,2,none⟩=false:=
 ⟨_,rfl,aG hR 2 c,ax V ⟨R,2,none⟩ c,ai hR 2 rfl,aB hR 2⟩
theorem uX (e n:Int)(v:Value)(l:List Bm.Ov)(w:World)(h:dz w v l)(hl:l.length*40≤140737488351232):
  Calls Tryz.prog 64 #[dF e n v] w fun E w'=>∃v',E=.returned (dF e n v')∧bu 71 w.heap.size w' v' l∧Below w.heap.size w w':=by
 unfold dF
 obtain⟨w1,hw1,aT,ak,hB⟩:=au w #[.int .i64 e,.int .i64 n,v] 35
 obtain⟨w2,hw2,dm,az,hR⟩:=au w1 #[.int .i64 0,.int .i64 0,.slice none 0 0] 35
 rw[aT]at hR
 have hB2:=(az.block w.heap.size (by omega)).trans hB
 have aO:Below w.heap.size w w2:=ak.trans (az.mono (by omega))
 have h2:=h.below aO
 obtain⟨ao,cap,rfl,_,_⟩:=h.shape
 have c2:=ai hB2 2 rfl
 have HB:=hide hB2
 have HR:=hide hR
 clear hB hB2 hR ak az
 go_enter Tryz.func64,Tryz.ntmps64
 go_wp2_with fail
 refine(aiq _ l _ h2 hl).mono ?_
 rintro E w3 ⟨v3,rfl,bG,aC⟩
 have bJ:=aC.size
 have hB3:=(aC.block w.heap.size (by omega)).trans HB.out
 have dC:=(aC.block (w.heap.size+1) (by omega)).trans HR.out
 have aW:=aO.trans (aC.mono (by omega))
 obtain⟨ah,ch,hvl,_,_⟩:=bG.is.shape
 subst hvl
 obtain⟨X,hX,cX,gX,q2,q3⟩:=xg hB3 (.slice ah l.length ch)
 have szX:=gX.size
 have zG:=(gX.block (w.heap.size+1) (by omega) (by simp)).trans dC
 have abq:=bG.qD gX (by omega)
 have ap4:=aF aW gX (Nat.le_refl _) (by omega)
 have d0:=ai cX 0 rfl
 have d1:=ai cX 1 rfl
 have d2:=ai cX 2 rfl
 obtain⟨V',hV',fu,dP,⟨a0,a1,a2⟩,⟨f0,f1,f2⟩,⟨z0,z1,z2⟩⟩:=fI zG (.int .i64 e) (.int .i64 n) (.slice ah l.length ch)
 have eG:=aF ap4 dP (by omega) (by omega)
 have aij:=(abq.qD dP (by omega)).bz (base':=w.heap.size) (by omega)
 clear HB HR hB3 dC cX gX zG fu dP bG abq aW ap4 aC c2
 go_wp2
 refine bodyPost_ret (v:=.agg #[.int .i64 e,.int .i64 n,.slice ah l.length ch]) (by simp[results,Tryz.results64,go_sem,z0,z1,z2]) rfl ?_
 exact⟨_,rfl,aij,eG⟩
theorem jr.one {e n:Int}{v:Value}{o:List Bm.Ov}(hf:fZ o)(hl:o.length*40≤140737488351232):jr [⟨e,n,v,o⟩]:=fun c hc=>by rw[List.mem_singleton.1 hc];exact⟨hf,hl⟩
theorem aqH {w:World}{a:Nat}{e n:Int}{v:Value}{o:List Bm.Ov}{t:TypeId}(h:w.heap[a]? =some (.cells #[.int .i64 e,.int .i64 n,v] t (0,0))):dU w (.slice (some ⟨a,0,none⟩) 1 1) [⟨e,n,v,o⟩]:=by
 refine .inr ⟨⟨a,0,none⟩,1,rfl,by simp,by simp[maxLen],fun j u hj=>?_⟩
 rw[gq]
 simp only[ccells,jh,List.append_nil]at hj
 match j,hj with
 |0,hj=>simp at hj;subst hj;exact ai h 0 rfl
 |1,hj=>simp at hj;subst hj;exact ai h 1 rfl
 |2,hj=>simp at hj;subst hj;exact ai h 2 rfl
 |k+3,hj=>simp at hj
theorem ahE (vl:Value)(r:List Cw)(w:World)(h:dU w vl r)(hone:∀c∈r,c.v.oneCell'=true)(hl:r.length≤1048576):
  Calls Tryz.prog 140 #[vl] w fun e w'=>∃v,e=.returned v∧bK 35 w.heap.size w' v r∧Below w.heap.size w w':=by
 have q:∀(w:World) (a:Option Addr) (n c n' c':Nat),(binOp .eql 22 (.slice a n c) (.slice none n' c')).run Tryz.prog w=.ok (.bool a.isNone) w:=fun w a n c n' c'=>Lib.run_eql_slice_nil w _ _ a n c n' c' Tryz.underlying22
 by_cases hn:vl=.slice none 0 0
 ·subst hn
  have:r=[]:=by
   rcases h with⟨_,h⟩|⟨ad,cap,h,_⟩
   ·exact h
   ·simp at h
  subst this
  clear h hl
  go_enter Tryz.func140,Tryz.ntmps140
  go_wp2
  go_ret
  exact⟨_,rfl,bK.nil _ _ _,Below.refl _ _⟩
 ·obtain⟨ad,cap,rfl⟩:∃ad cap,vl=.slice (some ad) r.length cap:=by
   rcases h with⟨h,_⟩|⟨ad,cap,h,_⟩
   ·exact absurd h hn
   ·exact⟨ad,cap,h⟩
  clear hn
  obtain⟨w1,hw1,aT,ak,aZ⟩:=mZ 35 w #[] 0 [] rfl rfl (by simp[maxLen])
  have h1:=h.below ak
  go_enter Tryz.func140,Tryz.ntmps140
  go_wp2_with (at_builtin;refine vV rfl (.tmp 5) (.tmp 6) 22 rfl 35 w.heap.size Tryz.underlying22 Tryz.aaF _ [] rfl aZ _ r rfl h1 hone (by simp;omega) (by omega) ?_)
  intro v2 w2 aY az _
  go_wp2
  go_ret
  exact⟨_,rfl,by simpa using aY,ak.trans az⟩
end Go.Proofs.YtlmkaljjocflmaaGreatDoor
