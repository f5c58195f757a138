/- Texts of one layer, one behind the other. -/
import Derived.Test.YtmngcecomcadkaaGreatDoorCH2
import Derived.Test.YtmngcecomcadkaaGreatDoorCH3
import Derived.Test.YtmngcecomcadkaaGreatDoorCG1
import Derived.Laws.StructEq
import Derived.Test.YtmngcecomcadkaaGreatDoorCH5
import Derived.Test.YtmngcecomcadkaaGreatDoorCH1
import Derived.Test.YtmngcecomcadkaaGreatDoorCG2
import Derived.Deep.RegionHeld3
set_option maxRecDepth 100000
set_option maxHeartbeats 8000000
namespace Go.Proofs.YtmngcecomcadkaaGreatDoor
open Go.RowKit
set_option linter.unusedVariables false
structure Cw where
 e:Int
 n:Int
 v:Value
 l:List Bm.Ov
def Cw.c (c:Cw):Cm.Cv:=⟨c.e,c.n,c.l⟩
def ay (r:List Cw):List Cm.Cv:=r.map Cw.c
def bK (e n:Int) (v:Value):Value:=.agg #[.int .i64 e,.int .i64 n,v]
def iD (c:Cw):List Value:=[.int .i64 c.e,.int .i64 c.n,c.v]
def ccells:List Cw→List Value
 |[]=>[]
 |c::r=>iD c++ccells r
theorem pR:∀(l:List Cw),(ccells l).length=l.length*3
 |[]=>rfl
 |o::r=>by
  have:=pR r
  simp only[ccells,iD,List.length_append,List.length_cons,List.length_nil]
  omega
theorem vz:∀(l m:List Cw),ccells (l++m)=ccells l++ccells m
 |[],_=>rfl
 |o::l,m=>by simp only[List.cons_append,ccells,vz l m,List.append_assoc]
theorem nV:∀(l:List Cw),(∀c∈l,c.v.oneCell'=true)→∀u∈ccells l,u.oneCell'=true
 |[],_,u,h=>by simp[ccells]at h
 |o::r,hv,u,h=>by
  rcases List.mem_append.1 h with h|h
  ·simp only[iD,List.mem_cons,List.not_mem_nil,or_false]at h
   rcases h with rfl|rfl|rfl
   ·rfl
   ·rfl
   ·exact hv o (List.mem_cons_self ..)
  ·exact nV r (fun c hc=>hv c (List.mem_cons_of_mem _ hc)) u h
theorem rA:∀(l:List Cw) (i:Nat) (hi:i<l.length),(ccells l)[i*3]? =some (.int .i64 l[i].e)∧(ccells l)[i*3+1]? =some (.int .i64 l[i].n)∧(ccells l)[i*3+2]? =some l[i].v
 |[],_,hi=>by simp at hi
 |o::r,0,hi=>by simp[ccells,iD]
 |o::r,i+1,hi=>by
  have:=rA r i (by simpa using hi)
  simp only[ccells,iD]
  rw[show(i+1)*3=i*3+3 by omega]
  simpa[List.getElem?_append]using this
theorem rX:∀(l:List Cw) (p:Nat),ccells (l.take p)=(ccells l).take (p*3)
 |[],p=>by simp[ccells]
 |o::l,0=>by simp[ccells]
 |o::l,p+1=>by
  rw[List.take_succ_cons,show(p+1)*3=p*3+3 by omega]
  simp[ccells,iD,rX l p]
theorem yX:∀(l:List Cw) (p:Nat),ccells (l.drop p)=(ccells l).drop (p*3)
 |[],p=>by simp[ccells]
 |o::l,0=>by simp[ccells]
 |o::l,p+1=>by
  rw[List.drop_succ_cons,show(p+1)*3=p*3+3 by omega]
  simp[ccells,iD,yX l p]
theorem dh.one {w:World}{v:Value}{l:List Bm.Ov}(h:dh w v l):v.oneCell'=true:=by
 obtain⟨ao,cap,rfl,_⟩:=h.shape
 rfl
def In64 (x:Int):Prop:=-9223372036854775808≤x∧x<9223372036854775808
def InC (w:World) (r:List Cw):Prop:=∀c∈r,dh w c.v c.l∧In64 c.e∧In64 c.n
def dL (r:List Cw):Prop:=∀c∈r,iL c.l∧c.l.length*40≤140737488351232
theorem InC.below {w w':World}{r:List Cw}(h:InC w r)(hb:Below w.heap.size w w'):InC w' r:=fun c hc=>⟨(h c hc).1.below hb,(h c hc).2⟩
def fu (w:World) (v:Value) (r:List Cw):Prop:=
 (v=.slice none 0 0∧r=[])∨∃ad cap,v=.slice (some ad) r.length cap∧r.length≤cap∧cap≤maxLen∧∀j u,(ccells r)[j]? =some u→w.cell? (ad.add j)=some u
def di (w:World) (v:Value) (r:List Cw):Prop:=fu w v r∧InC w r
def bn (e:TypeId) (base:Nat) (w:World) (v:Value) (r:List Cw):Prop:=w.ownsRow base e 3 v r.length (ccells r)
theorem fu.nil (w:World):fu w (.slice none 0 0) []:=.inl ⟨rfl,rfl⟩
theorem di.nil (w:World):di w (.slice none 0 0) []:=⟨fu.nil w,fun c hc=>by simp at hc⟩
theorem bn.nil (e:TypeId)(base:Nat)(w:World):bn e base w (.slice none 0 0) []:=World.ownsRow_nil _ _ _ _
theorem fu.below {w w':World}{v:Value}{l:List Cw}(h:fu w v l)(hb:Below w.heap.size w w'):fu w' v l:=by
 rcases h with h|⟨ad,cap,hv,h1,h2,hc⟩
 ·exact .inl h
 ·refine .inr ⟨ad,cap,hv,h1,h2,fun j u hj=>?_⟩
  have:=hc j u hj
  rw[hb.cell (World.block_lt_of_cell? _ _ this)]
  exact this
theorem di.below {w w':World}{v:Value}{l:List Cw}(h:di w v l)(hb:Below w.heap.size w w'):di w' v l:=⟨h.1.below hb,h.2.below hb⟩
theorem fu.shape {w:World}{v:Value}{l:List Cw}(h:fu w v l):∃ao cap,v=.slice ao l.length cap∧l.length≤cap∧cap≤maxLen:=by
 rcases h with⟨hv,e⟩|⟨ad,cap,hv,h1,h2,_⟩
 ·subst e;exact⟨none,0,hv,by simp,by simp⟩
 ·exact⟨some ad,cap,hv,h1,h2⟩
theorem fu.full {w:World}{v:Value}{l:List Cw}(h:fu w v l)(hne:0<l.length):
  ∃b off cap,v=.slice (some ⟨b,off,none⟩) l.length cap∧l.length≤cap∧cap≤maxLen∧b<w.heap.size∧
   ∀i c,l[i]? =some c→w.cell? ⟨b,off+i*3,none⟩=some (.int .i64 c.e)∧w.cell? ⟨b,off+i*3+1,none⟩=some (.int .i64 c.n)∧w.cell? ⟨b,off+i*3+2,none⟩=some c.v:=by
 rcases h with⟨_,h⟩|⟨⟨b,off,spot⟩,cap,hv,h1,h2,hc⟩
 ·subst h;simp at hne
 ·have h0:=hc 0 _ (rA l 0 hne).1
  have hspot:spot=none:=by simpa[Addr.add]using World.cell?_spot h0
  subst hspot
  refine⟨b,off,cap,hv,h1,h2,World.block_lt_of_cell? _ _ h0,fun i o kT=>?_⟩
  obtain⟨hi,rfl⟩:=List.getElem?_eq_some_iff.1 kT
  obtain⟨g1,g2,g3⟩:=rA l i hi
  have k1:=hc _ _ g1
  have k2:=hc _ _ g2
  have k3:=hc _ _ g3
  rw[gF]at k1 k2 k3
  exact⟨k1,by rw[Nat.add_assoc];exact k2,by rw[Nat.add_assoc];exact k3⟩
theorem bn.row {e base:Nat}{w:World}{v:Value}{l:List Cw}(h:bn e base w v l):fu w v l:=by
 rcases h.2 with⟨hv,hn⟩|⟨g,cap,cur,hv,h1,hh,hc,hm,hs,ht⟩
 ·exact .inl ⟨hv,List.eq_nil_of_length_eq_zero hn⟩
 ·refine .inr ⟨⟨g,0,none⟩,cap,hv,hc,hm,fun j u hj=>?_⟩
  exact h.cells (by rw[hv];rfl) j u hj
theorem ajS {e base size n:Nat}{w w':World}{v:Value}{xs:List Value}(h:w.ownsRow base e size v n xs)(hb:Below w.heap.size w w'):w'.ownsRow base e size v n xs:=by
 refine⟨h.1,?_⟩
 rcases h.2 with h|⟨g,cap,cur,hv,h1,hh,r⟩
 ·exact .inl h
 ·refine .inr ⟨g,cap,cur,hv,h1,?_,r⟩
  rw[hb.block g (Array.getElem?_eq_some_iff.1 hh).1]
  exact hh
theorem bn.below {e base:Nat}{w w':World}{v:Value}{l:List Cw}(h:bn e base w v l)(hb:Below w.heap.size w w'):bn e base w' v l:=ajS h hb
theorem kC (e:TypeId)(w:World)(cs:Array Value)(n:Nat)(l:List Cw)(hn:l.length=n)(h:cs.toList=ccells l)(hm:n≤maxLen):
  ∃W,w.alloc (.cells cs e)=W∧W.heap.size=w.heap.size+1∧Below w.heap.size w W∧bn e w.heap.size W (.slice (some ⟨w.heap.size,0,none⟩) n n) l:=by
 subst hn
 refine⟨_,rfl,by simp,(Below.refl _ _).alloc (Nat.le_refl _) _,?_⟩
 have ho:=World.ownsRow_lit (base:=w.heap.size) (e:=e) (size:=3) w cs l.length (Nat.le_refl _) hm (by have:=congrArg List.length h;rw[pR]at this;simpa using this)
 rw[h]at ho
 exact ho
theorem bH.xz {e base size n:Nat}{w w':World}{v:Value}{xs:List Value}(h:w.ownsRow base e size v n xs)(hg:w.grownBy w' v.ownBlock):bH e w w':=by
 intro g cs t fr hc ht
 refine(hg.block g (ax hc) fun e1=>?_).trans hc
 rcases h.2 with⟨rfl,_⟩|⟨g',cap,cur,rfl,_,hh,_⟩
 ·simp[Value.ownBlock]at e1
 ·simp[Value.ownBlock]at e1
  subst e1
  rw[hh]at hc
  simp at hc
  exact ht hc.2.1.symm
theorem bg.iJ {e e' base:Nat}{w w':World}{v:Value}{l:List Bm.Ov}(h:bg e base w v l)(k:bH e' w w')(hne:e≠e'):bg e base w' v l:=by
 refine⟨h.1,?_⟩
 rcases h.2 with h|⟨g,cap,cur,hv,h1,hh,r⟩
 ·exact .inl h
 ·exact .inr ⟨g,cap,cur,hv,h1,k _ _ _ _ hh hne,r⟩
section
variable {P:Program} {w:World} {ops:Array Oper} {rest:List Oper} {o:Oper} {a:Act} {Q:Exit→Act→World→Prop}
theorem jY (hgd:o.guard=none)(s x:Operand)(t:TypeId)
  (ho:o.op=.call {callee:=.builtin .append,args:=#[s,x],argTypes:=#[t,t]})
  (e:TypeId) (base:Nat) (ht:P.underlying t=some (.slice e)) (hinfo:(P.info? e).map (fun i=>(i.zero,i.size,i.bytes))=some (some (.agg #[.int .i64 0,.int .i64 0,.slice none 0 0]),3,40))
  (v:Value) (l:List Cw) (hs:a.eval s=v) (hown:bn e base w v l) (vx:Value) (m:List Cw) (hx:a.eval x=vx) (his:fu w vx m) (hone:∀c∈m,c.v.oneCell'=true)
  (hlen:(l.length+m.length)*40≤140737488355328) (hbase:base≤w.heap.size)
  (h:∀v' w',bn e base w' v' (l++m)→Below base w w'→bH e w w'→wpList P ops Q rest (a.put o.dst v') w'):wpList P ops Q (o::rest) a w:=by
 obtain⟨i,hi,hz,hsize,hb⟩:=info_parts hinfo
 have hn:l.length+m.length≤140737488355328:=by omega
 rcases his with⟨hv,hy⟩|⟨ad,cap,hv,h1,h2,hc⟩
 ·subst hy
  refine wpList_append_own_none hgd s x t ho base e i 3 ht hi v l.length _ hs hown (hx.trans hv) (h v w (by simpa using hown) (Below.refl _ _) (bH.refl _ _))
 ·refine wpList_append_own w hgd s x t ho base e i _ 3 40 ht hi hz hsize hb rfl (by decide) v l.length _ hs hown ad m.length cap (ccells m) (hx.trans hv) (pR m) hc (nV m hone) (by unfold maxLen;omega) hlen hbase ?_
  intro v' w' ho' hg _
  refine h v' w' (by unfold bn;rw[vz,List.length_append];exact ho') ((Below.refl _ _).grown hg hbase fun k' hk=>?_) (bH.xz hown hg)
  exact(World.ownsRow.lt hown k' hk).1
variable {v:Value}
theorem fu.jb {l:List Cw}(h:fu w v l){t:TypeId}(ht:P.underlying t=some (.slice (P.elem t)))(hs:∀wx,(sizeOf (P.elem t)).run P wx=.ok 3 wx)(p:Nat)(hp:p≤l.length):
  ∃vs,(∀wx,(Instr.slice t v none (some (.int .i64 p)) none).run P wx=.ok vs wx)∧fu w vs (l.take p):=by
 obtain⟨ao,cap,rfl,hcap,hm⟩:=h.shape
 refine⟨.slice ao p cap,fun wx=>?_,?_⟩
 ·rw[run_slice_h wx t ao l.length cap ht .i64 _ (by omega) (by omega),hs]
  simp only[Result.andThen,sliced]
  cases ao<;>simp[Addr.add]
 ·cases ao with
  |none=>
   rcases h with⟨hv,e⟩|⟨ad,cap',hv,_⟩
   ·subst e
    simp at hp hv
    subst hp hv
    exact fu.nil _
   ·simp at hv
  |some ad=>
   have hl:(l.take p).length=p:=by rw[List.length_take];omega
   rcases h with⟨hv,_⟩|⟨ad',cap',hv,h1,h2,hc⟩
   ·simp at hv
   ·simp at hv
    obtain⟨rfl,rfl⟩:=hv
    refine .inr ⟨ad,cap,by rw[hl],by omega,h2,fun j u hj=>hc j u ?_⟩
    rw[rX,List.getElem?_take]at hj
    split at hj
    ·exact hj
    ·simp at hj
theorem fu.gq {l:List Cw}(h:fu w v l){t:TypeId}(ht:P.underlying t=some (.slice (P.elem t)))(hs:∀wx,(sizeOf (P.elem t)).run P wx=.ok 3 wx)(p:Nat)(hp:p<l.length):
  ∃vs,(∀wx,(Instr.slice t v (some (.int .i64 p)) none none).run P wx=.ok vs wx)∧fu w vs (l.drop p):=by
 obtain⟨b,off,cap,rfl,hcap,hm,hB,hcell⟩:=h.full (by omega)
 refine⟨.slice (some ⟨b,off+p*3,none⟩) (l.length-p) (cap-p),fun wx=>?_,?_⟩
 ·rw[run_slice_l wx t _ l.length cap ht .i64 _ (by omega) (by omega),hs]
  have hne:¬cap=p:=by omega
  simp[Result.andThen,sliced,hne,gF]
 ·rcases h with⟨hv,_⟩|⟨ad',cap',hv,h1,h2,hc⟩
  ·simp at hv
  ·simp at hv
   obtain⟨rfl,rfl⟩:=hv
   refine .inr ⟨⟨b,off+p*3,none⟩,cap-p,by simp,by simp;omega,by omega,fun j u hj=>?_⟩
   rw[yX,List.getElem?_drop]at hj
   have:=hc _ _ hj
   rw[gF]at this⊢
   rw[Nat.add_assoc]
   exact this
end
theorem Tryz.oq:(Tryz.prog.info? 35).map (fun i=>(i.zero,i.size,i.bytes))=some (some (.agg #[.int .i64 0,.int .i64 0,.slice none 0 0]),3,40):=by kernel_rfl
theorem Tryz.mo:Tryz.prog.underlying 22=some (.slice (Tryz.prog.elem 22)):=by kernel_rfl
theorem Tryz.mM (wx:World):(sizeOf (Tryz.prog.elem 22)).run Tryz.prog wx=.ok 3 wx:=by kernel_rfl
theorem Tryz.alh (op:BinOp)(x y:Operand)(xs ys:Array Value)(w:World):(eqGuard op 111 x y (.agg xs) (.agg ys)).run Tryz.prog w=.ok () w:=run_eqGuard_agg w op 111 x y xs ys (by kernel_rfl)
theorem Tryz.atK (o q:Bm.Ov)(w:World):(binOp .neq 111 (.agg #[.bool o.p,.string o.k,.string o.v]) (.agg #[.bool q.p,.string q.k,.string q.v])).run Tryz.prog w=.ok (.bool (!Bm.eqO o q)) w:=by
 rw[run_neq_struct,run_equalIn_agg w 9999 111 _ _ (by kernel_rfl) (by kernel_rfl)]
 unfold Program.fieldsOf
 rw[Tryz.underlying111]
 simp[Op.eqFields,go_sem,Tryz.underlying4,Tryz.underlying9]
 unfold Bm.eqO Bm.Ov.kl Bm.Ov.vl
 simp only[Lib.toList_data]
 by_cases h1:o.p=q.p<;>by_cases h2:o.k.data.toList=q.k.data.toList<;>by_cases h3:o.v.data.toList=q.v.data.toList<;>simp[h1,h2,h3]
theorem agu (va vb:Value)(xs ys:List Bm.Ov)(w:World)(ha:dh w va xs)(hb:dh w vb ys)(hl:xs.length≤140737488355328)(hl':ys.length≤140737488355328):
  Calls Tryz.prog 135 #[va,vb] w fun e w'=>e=.returned (.bool (Bm.sameL xs ys))∧∃m,w'=w.drewN m:=by
 by_cases hne:xs.length=ys.length
 ·by_cases hz:0<xs.length
  ·obtain⟨b1,o1,c1,rfl,_,_,hB1,hc1⟩:=ha.full hz
   obtain⟨b2,o2,c2,rfl,_,_,hB2,hc2⟩:=hb.full (by omega)
   have ht:((xs.length:Int) !=(ys.length:Int))=false:=by simp;omega
   have HL:=hide hne
   have HC1:=hide hc1
   have HC2:=hide hc2
   clear hne ha hb hc1 hc2
   generalize hn:xs.length=n at*
   generalize hm:ys.length=m at*
   have HN:=hide hn
   have HM:=hide hm
   clear hn hm
   go_enter Tryz.func135,Tryz.ntmps135
   go_wp2
   go_loopw [5] (fun i wr=>∃(k:Nat),k≤n∧i=.int .i64 k∧Hid (xs.take k=ys.take k)∧∃m,wr=w.drewN m) (fun i _=>n-(intOf i).toNat)
   case atStart=>exact⟨0,by omega,rfl,hide rfl,0,rfl⟩
   case round=>
    obtain⟨k,hk,rfl,HT,mm,rfl⟩:=hrel
    by_cases hlt:k<n
    ·obtain⟨o,ho⟩:∃o,xs[k]? =some o:=⟨xs[k]'(by have:=HN.out;omega),by rw[List.getElem?_eq_getElem]⟩
     obtain⟨q,hq⟩:∃q,ys[k]? =some q:=⟨ys[k]'(by have:=HM.out;have:=HL.out;omega),by rw[List.getElem?_eq_getElem]⟩
     obtain⟨d0,d1,d2⟩:=HC1.out k o ho
     obtain⟨e0,e1,e2⟩:=HC2.out k q hq
     have hlt':(k:Int)<n:=by omega
     have hlt2:(k:Int)<m:=by have:=HL.out;omega
     have HO:=hide ho
     have HQ:=hide hq
     clear ho hq
     have hnq:=Tryz.atK o q
     have hgd:=Tryz.alh
     cases hoq:Bm.eqO o q
     ·have HS:Hid (Bm.sameL xs ys=false):=hide (Bm.uE fun e=>by
       have h1:=HO.out
       rw[e,HQ.out]at h1
       rw[Bm.sD.2 (Option.some.inj h1.symm)]at hoq
       simp at hoq)
      rw[hoq]at hnq
      clear hoq
      go_wp2
      go_quiet (fail)
      go_wp2
      go_ret
      refine⟨?_,_,World.drewN_drewN _ _ _⟩
      rw[HS.out]
      rfl
     ·have HT2:Hid (xs.take (k+1)=ys.take (k+1)):=hide (by
       rw[List.take_add_one,List.take_add_one,HT.out,HO.out,HQ.out,Bm.sD.1 hoq])
      rw[hoq]at hnq
      clear hoq
      go_wp2
      go_quiet (fail)
      go_wp2
      go_roundw
      case rel=>exact⟨k+1,by omega,by go_num,HT2,_,rfl⟩
      case measure=>simp[intOf];omega
    ·have hlt':¬(k:Int)<n:=by omega
     have HS:Hid (Bm.sameL xs ys=true):=hide (Bm.oL.2 (by
      have h1:=HT.out
      rw[List.take_of_length_le (by have:=HN.out;omega),List.take_of_length_le (by have:=HN.out;have:=HM.out;have:=HL.out;omega)]at h1
      exact h1))
     go_wp2
     go_ret
     refine⟨?_,mm,rfl⟩
     rw[HS.out]
     rfl
  ·have hx:xs=[]:=List.eq_nil_of_length_eq_zero (by omega)
   have hy:ys=[]:=List.eq_nil_of_length_eq_zero (by omega)
   subst hx hy
   obtain⟨a1,c1,rfl⟩:=ha.bare
   obtain⟨a2,c2,rfl⟩:=hb.bare
   clear hl hl' hne hz ha hb
   go_enter Tryz.func135,Tryz.ntmps135
   go_wp2
   refine wp_loop_rounds 1 ?_
   rw[rounds_succ]
   go_wp2
   go_ret
   exact⟨by simp[Bm.sameL],0,rfl⟩
 ·obtain⟨a1,c1,rfl,_,_⟩:=ha.shape
  obtain⟨a2,c2,rfl,_,_⟩:=hb.shape
  have ht:((xs.length:Int) !=(ys.length:Int))=true:=by simp;omega
  have HX:Hid (Bm.sameL xs ys=false):=hide (Bm.uE fun h=>hne (by rw[h]))
  clear hne
  go_enter Tryz.func135,Tryz.ntmps135
  go_wp2
  go_ret
  exact⟨by rw[HX.out];rfl,0,rfl⟩
theorem aki (va vb:Value)(xs ys:List Bm.Ov)(w:World)(ha:dh w va xs)(hb:dh w vb ys)(hl:xs.length≤140737488355328)(hl':ys.length≤140737488355328):
  Calls Tryz.prog 135 #[va,vb] w fun e w'=>e=.returned (.bool (Bm.sameL xs ys))∧Below w.heap.size w w':=
 (agu va vb xs ys w ha hb hl hl').mono (by rintro e w' ⟨rfl,m,rfl⟩;exact⟨rfl,below_drewN (Below.refl _ _) m⟩)
theorem afQ (va vb:Value)(xs ys:List Bm.Ov)(w:World)(ha:dh w va xs)(hb:dh w vb ys)(hl:xs.length≤140737488355328)(hl':ys.length≤140737488355328):
  Calls Tryz.prog 217 #[va,vb] w fun e w'=>e=.returned (.bool (Bm.sameL xs ys))∧∃m,w'=w.drewN m:=by
 by_cases hne:xs.length=ys.length
 ·by_cases hz:0<xs.length
  ·obtain⟨b1,o1,c1,rfl,_,_,hB1,hc1⟩:=ha.full hz
   obtain⟨b2,o2,c2,rfl,_,_,hB2,hc2⟩:=hb.full (by omega)
   have ht:((xs.length:Int) !=(ys.length:Int))=false:=by simp;omega
   have HL:=hide hne
   have HC1:=hide hc1
   have HC2:=hide hc2
   clear hne ha hb hc1 hc2
   generalize hn:xs.length=n at*
   generalize hm:ys.length=m at*
   have HN:=hide hn
   have HM:=hide hm
   clear hn hm
   go_enter Tryz.func217,Tryz.ntmps217
   go_wp2
   go_loopw [13] (fun i wr=>∃(k:Nat),k≤n∧i=.int .i64 k∧Hid (xs.take k=ys.take k)∧∃m,wr=w.drewN m) (fun i _=>n-(intOf i).toNat)
   case atStart=>exact⟨0,by omega,rfl,hide rfl,0,rfl⟩
   case round=>
    obtain⟨k,hk,rfl,HT,mm,rfl⟩:=hrel
    by_cases hlt:k<n
    ·obtain⟨o,ho⟩:∃o,xs[k]? =some o:=⟨xs[k]'(by have:=HN.out;omega),by rw[List.getElem?_eq_getElem]⟩
     obtain⟨q,hq⟩:∃q,ys[k]? =some q:=⟨ys[k]'(by have:=HM.out;have:=HL.out;omega),by rw[List.getElem?_eq_getElem]⟩
     obtain⟨d0,d1,d2⟩:=HC1.out k o ho
     obtain⟨e0,e1,e2⟩:=HC2.out k q hq
     have hlt':(k:Int)<n:=by omega
     have hlt2:(k:Int)<m:=by have:=HL.out;omega
     have HO:=hide ho
     have HQ:=hide hq
     clear ho hq
     have hnq:=Tryz.atK o q
     have hgd:=Tryz.alh
     cases hoq:Bm.eqO o q
     ·have HS:Hid (Bm.sameL xs ys=false):=hide (Bm.uE fun e=>by
       have h1:=HO.out
       rw[e,HQ.out]at h1
       rw[Bm.sD.2 (Option.some.inj h1.symm)]at hoq
       simp at hoq)
      rw[hoq]at hnq
      clear hoq
      go_wp2
      go_quiet (fail)
      go_wp2
      go_ret
      refine⟨?_,_,World.drewN_drewN _ _ _⟩
      rw[HS.out]
      rfl
     ·have HT2:Hid (xs.take (k+1)=ys.take (k+1)):=hide (by
       rw[List.take_add_one,List.take_add_one,HT.out,HO.out,HQ.out,Bm.sD.1 hoq])
      rw[hoq]at hnq
      clear hoq
      go_wp2
      go_quiet (fail)
      go_wp2
      go_roundw
      case rel=>exact⟨k+1,by omega,by go_num,HT2,_,rfl⟩
      case measure=>simp[intOf];omega
    ·have hlt':¬(k:Int)<n:=by omega
     have HS:Hid (Bm.sameL xs ys=true):=hide (Bm.oL.2 (by
      have h1:=HT.out
      rw[List.take_of_length_le (by have:=HN.out;omega),List.take_of_length_le (by have:=HN.out;have:=HM.out;have:=HL.out;omega)]at h1
      exact h1))
     go_wp2
     go_ret
     refine⟨?_,mm,rfl⟩
     rw[HS.out]
     rfl
  ·have hx:xs=[]:=List.eq_nil_of_length_eq_zero (by omega)
   have hy:ys=[]:=List.eq_nil_of_length_eq_zero (by omega)
   subst hx hy
   obtain⟨a1,c1,rfl⟩:=ha.bare
   obtain⟨a2,c2,rfl⟩:=hb.bare
   clear hl hl' hne hz ha hb
   go_enter Tryz.func217,Tryz.ntmps217
   go_wp2
   refine wp_loop_rounds 1 ?_
   rw[rounds_succ]
   go_wp2
   go_ret
   exact⟨by simp[Bm.sameL],0,rfl⟩
 ·obtain⟨a1,c1,rfl,_,_⟩:=ha.shape
  obtain⟨a2,c2,rfl,_,_⟩:=hb.shape
  have ht:((xs.length:Int) !=(ys.length:Int))=true:=by simp;omega
  have HX:Hid (Bm.sameL xs ys=false):=hide (Bm.uE fun h=>hne (by rw[h]))
  clear hne
  go_enter Tryz.func217,Tryz.ntmps217
  go_wp2
  go_ret
  exact⟨by rw[HX.out];rfl,0,rfl⟩
theorem aiI (va vb:Value)(xs ys:List Bm.Ov)(w:World)(ha:dh w va xs)(hb:dh w vb ys)(hl:xs.length≤140737488355328)(hl':ys.length≤140737488355328):
  Calls Tryz.prog 217 #[va,vb] w fun e w'=>e=.returned (.bool (Bm.sameL xs ys))∧Below w.heap.size w w':=
 (afQ va vb xs ys w ha hb hl hl').mono (by rintro e w' ⟨rfl,m,rfl⟩;exact⟨rfl,below_drewN (Below.refl _ _) m⟩)
theorem al6 (va vb:Value)(xs ys:List Bm.Ov)(w:World)(ha:dh w va xs)(hb:dh w vb ys)(hl:xs.length≤140737488355328)(hl':ys.length≤140737488355328):
  Calls Tryz.prog 198 #[va,vb] w fun e w'=>e=.returned (.bool (Bm.sameL xs ys))∧Below w.heap.size w w':=by
 go_enter Tryz.func198,Tryz.ntmps198
 go_wp2_with fail
 refine(aiI va vb xs ys _ ha hb hl hl').mono ?_
 rintro E w1 ⟨rfl,aj⟩
 go_wp2
 go_ret
 exact⟨rfl,aj⟩
theorem sW (x:Int)(w:World):Calls Tryz.prog 95 #[.int .i64 x] w fun E w'=>E=.returned (.bool (decide (1≤x∧x≤1048576)))∧w=w':=by
 go_enter Tryz.func95,Tryz.ntmps95
 by_cases h1:1≤x
 ·by_cases h2:x≤1048576
  ·go_wp2
   go_ret
   exact⟨by simp[h1,h2],rfl⟩
  ·go_wp2
   go_ret
   exact⟨by simp;omega,rfl⟩
 ·go_wp2
  go_ret
  exact⟨by simp;omega,rfl⟩
theorem uD (e n:Int)(v:Value)(l:List Bm.Ov)(w:World)(h:dh w v l)(hf:iL l)(hl:l.length≤140737488355328):
  Calls Tryz.prog 42 #[bK e n v] w fun E w'=>E=.returned (.int .i64 (Cm.chk e n l))∧Below w.heap.size w w':=by
 unfold bK
 obtain⟨w1,hw1,aT,aj,hB⟩:=ak w #[.int .i64 e,.int .i64 n,v] 35
 have c0:=ai hB 0 rfl
 have c1:=ai hB 1 rfl
 have c2:=ai hB 2 rfl
 have h1:=h.below aj
 obtain⟨ao,cap,rfl,_,_⟩:=h.shape
 clear hB
 go_enter Tryz.func42,Tryz.ntmps42
 by_cases he:1≤e∧e≤1048576
 ·have he':decide (1≤e∧e≤1048576)=true:=by simp[he]
  by_cases hn:1≤n∧n≤1048576
  ·have hn':decide (1≤n∧n≤1048576)=true:=by simp[hn]
   rw[Cm.kU ⟨he.1,he.2,hn.1,hn.2⟩]
   clear he hn
   go_wp2_with fail
   refine(sW e _).mono ?_
   rintro E w2 ⟨rfl,rfl⟩
   rw[he']
   go_wp2_with fail
   refine(sW n _).mono ?_
   rintro E w2 ⟨rfl,rfl⟩
   rw[hn']
   go_wp2_with fail
   refine(mg _ l _ h1 hf hl).mono ?_
   rintro E w3 ⟨rfl,aD⟩
   have aY:=aj.trans (aD.mono (by omega))
   go_wp2
   go_ret
   exact⟨rfl,aY⟩
  ·have hn':decide (1≤n∧n≤1048576)=false:=by simpa using hn
   rw[Cm.ab3 (by omega)]
   clear he hn
   go_wp2_with fail
   refine(sW e _).mono ?_
   rintro E w2 ⟨rfl,rfl⟩
   rw[he']
   go_wp2_with fail
   refine(sW n _).mono ?_
   rintro E w2 ⟨rfl,rfl⟩
   rw[hn']
   go_wp2
   go_ret
   exact⟨rfl,aj⟩
 ·have he':decide (1≤e∧e≤1048576)=false:=by simpa using he
  rw[Cm.ab3 (by omega)]
  clear he
  go_wp2_with fail
  refine(sW e _).mono ?_
  rintro E w2 ⟨rfl,rfl⟩
  rw[he']
  go_wp2
  go_ret
  exact⟨rfl,aj⟩
def iC (e n:Int) (l:List Bm.Ov) (e' n':Int) (l':List Bm.Ov):Bool:=(e==e')&&((n==n')&&Bm.sameL l l')
theorem alv (e n:Int)(v:Value)(l:List Bm.Ov)(e' n':Int)(v':Value)(l':List Bm.Ov)(w:World)(h:dh w v l)(h':dh w v' l')(hl:l.length≤140737488355328)(hl':l'.length≤140737488355328):
  Calls Tryz.prog 166 #[bK e n v,bK e' n' v'] w fun E w'=>E=.returned (.bool (iC e n l e' n' l'))∧Below w.heap.size w w':=by
 unfold bK
 obtain⟨w1,hw1,aT,aj,hB⟩:=ak w #[.int .i64 e,.int .i64 n,v] 35
 obtain⟨w2,hw2,dz,au,hC⟩:=ak w1 #[.int .i64 e',.int .i64 n',v'] 35
 rw[aT]at hC
 have hB2:=(au.block _ (ax hB)).trans hB
 have c0:=ai hB2 0 rfl
 have c1:=ai hB2 1 rfl
 have c2:=ai hB2 2 rfl
 have d0:=ai hC 0 rfl
 have d1:=ai hC 1 rfl
 have d2:=ai hC 2 rfl
 have aL:Below w.heap.size w w2:=aj.trans (au.mono (by omega))
 have i1:=h.below aL
 have i2:=h'.below aL
 obtain⟨ao,cap,rfl,_,_⟩:=h.shape
 obtain⟨ao',cap',rfl,_,_⟩:=h'.shape
 clear hB hC hB2 aj au
 go_enter Tryz.func166,Tryz.ntmps166
 by_cases he:e=e'
 ·have he':(e==e')=true:=by simp[he]
  by_cases hn:n=n'
  ·have hn':(n==n')=true:=by simp[hn]
   have hs:iC e n l e' n' l'=Bm.sameL l l':=by simp[iC,he',hn']
   rw[hs]
   clear he hn hs
   go_wp2_with fail
   refine(al6 _ _ l l' _ i1 i2 hl hl').mono ?_
   rintro E w3 ⟨rfl,aD⟩
   have aY:=aL.trans (aD.mono (by omega))
   go_wp2
   go_ret
   exact⟨rfl,aY⟩
  ·have hn':(n==n')=false:=by simpa using hn
   have hs:iC e n l e' n' l'=false:=by simp[iC,hn']
   rw[hs]
   clear he hn hs
   go_wp2
   go_ret
   exact⟨rfl,aL⟩
 ·have he':(e==e')=false:=by simpa using he
  have hs:iC e n l e' n' l'=false:=by simp[iC,he']
  rw[hs]
  clear he hs
  go_wp2
  go_ret
  exact⟨rfl,aL⟩
theorem aiQ (e n:Int)(v:Value)(l:List Bm.Ov)(e' n':Int)(v':Value)(l':List Bm.Ov)(w:World)(h:dh w v l)(h':dh w v' l')(hl:l.length≤140737488355328)(hl':l'.length≤140737488355328):
  Calls Tryz.prog 94 #[bK e n v,bK e' n' v'] w fun E w'=>E=.returned (.bool (iC e n l e' n' l'))∧Below w.heap.size w w':=by
 unfold bK
 obtain⟨w1,hw1,aT,aj,hB⟩:=ak w #[.int .i64 e,.int .i64 n,v] 35
 obtain⟨w2,hw2,dz,au,hC⟩:=ak w1 #[.int .i64 e',.int .i64 n',v'] 35
 rw[aT]at hC
 have hB2:=(au.block _ (ax hB)).trans hB
 have c0:=ai hB2 0 rfl
 have c1:=ai hB2 1 rfl
 have c2:=ai hB2 2 rfl
 have d0:=ai hC 0 rfl
 have d1:=ai hC 1 rfl
 have d2:=ai hC 2 rfl
 have aL:Below w.heap.size w w2:=aj.trans (au.mono (by omega))
 have i1:=h.below aL
 have i2:=h'.below aL
 obtain⟨ao,cap,rfl,_,_⟩:=h.shape
 obtain⟨ao',cap',rfl,_,_⟩:=h'.shape
 clear hB hC hB2 aj au
 go_enter Tryz.func94,Tryz.ntmps94
 by_cases he:e=e'
 ·have he':(e==e')=true:=by simp[he]
  by_cases hn:n=n'
  ·have hn':(n==n')=true:=by simp[hn]
   have hs:iC e n l e' n' l'=Bm.sameL l l':=by simp[iC,he',hn']
   rw[hs]
   clear he hn hs
   go_wp2_with fail
   refine(aki _ _ l l' _ i1 i2 hl hl').mono ?_
   rintro E w3 ⟨rfl,aD⟩
   have aY:=aL.trans (aD.mono (by omega))
   go_wp2
   go_ret
   exact⟨rfl,aY⟩
  ·have hn':(n==n')=false:=by simpa using hn
   have hs:iC e n l e' n' l'=false:=by simp[iC,hn']
   rw[hs]
   clear he hn hs
   go_wp2
   go_ret
   exact⟨rfl,aL⟩
 ·have he':(e==e')=false:=by simpa using he
  have hs:iC e n l e' n' l'=false:=by simp[iC,he']
  rw[hs]
  clear he hs
  go_wp2
  go_ret
  exact⟨rfl,aL⟩
theorem dF {V:World}{R:Nat}{t:TypeId}{x y:Value}(hR:V.heap[R]? =some (.cells #[x,y] t (0,0)))(a b:Value):
  ∃V',(V.setCell ⟨R,0,none⟩ a).setCell ⟨R,1,none⟩ b=V'∧V'.heap[R]? =some (.cells #[a,b] t (0,0))∧V.grownBy V' (some R)∧
   (V.cell? ⟨R,0,none⟩=some x∧V.cell? ⟨R,1,none⟩=some y)∧(V.frozen? ⟨R,0,none⟩=false∧V.frozen? ⟨R,1,none⟩=false)∧
   (V'.cell? ⟨R,0,none⟩=some a∧V'.cell? ⟨R,1,none⟩=some b):=by
 have h2:=aH (aH hR 0 a) 1 b
 exact⟨_,rfl,h2,aG (az V ⟨R,0,none⟩ a) (az _ ⟨R,1,none⟩ b),⟨ai hR 0 rfl,ai hR 1 rfl⟩,⟨aA hR 0,aA hR 1⟩,⟨ai h2 0 rfl,ai h2 1 rfl⟩⟩
theorem nC (w:World)(t:TypeId)(x y a b:Value):∃V,(((w.alloc (.cells #[x,y] t)).setCell ⟨w.heap.size,0,none⟩ a).setCell ⟨w.heap.size,1,none⟩ b=V)∧w.alloc (.cells #[a,b] t)=V∧V.heap.size=w.heap.size+1∧Below w.heap.size w V∧V.heap[w.heap.size]? =some (.cells #[a,b] t (0,0))∧
  V.cell? ⟨w.heap.size,0,none⟩=some a∧V.cell? ⟨w.heap.size,1,none⟩=some b:=by
 obtain⟨V,h1,h2,h3,h4⟩:=ak w #[a,b] t
 refine⟨V,?_,h1,h2,h3,h4,ai h4 0 rfl,ai h4 1 rfl⟩
 rw[←h1]
 simp[go_sem]
def rE (f:Int×Int):Value:=.agg #[.int .i64 f.1,.int .i64 f.2]
theorem Tryz.oG (op:BinOp)(x y:Operand)(xs ys:Array Value)(w:World):(eqGuard op 31 x y (.agg xs) (.agg ys)).run Tryz.prog w=.ok () w:=run_eqGuard_agg w op 31 x y xs ys (by kernel_rfl)
theorem Tryz.zV (a b c d:Int)(w:World):(binOp .neq 31 (.agg #[.int .i64 a,.int .i64 b]) (.agg #[.int .i64 c,.int .i64 d])).run Tryz.prog w=.ok (.bool (!((a==c)&&(b==d)))) w:=by
 rw[run_neq_struct,run_equalIn_agg w 9999 31 _ _ (by kernel_rfl) (by kernel_rfl)]
 unfold Program.fieldsOf
 rw[Tryz.underlying31]
 simp[Op.eqFields,go_sem,Tryz.underlying29,Tryz.underlying3]
 by_cases h1:a=c<;>by_cases h2:b=d<;>simp[h1,h2]
theorem asj (at' ep nu e n:Int)(v:Value)(l:List Bm.Ov)(w:World)(h:dh w v l)(hf:iL l)(hl:l.length≤140737488355328):
  Calls Tryz.prog 24 #[.int .i64 at',.int .i64 ep,.int .i64 nu,bK e n v] w fun E w'=>E=.returned (rE (Cm.flt at' ep nu ⟨e,n,l⟩))∧Below w.heap.size w w':=by
 unfold bK rE
 obtain⟨fa,hfa⟩:∃f,Cm.flt at' ep nu ⟨e,n,l⟩=f:=⟨_,rfl⟩
 rw[hfa]
 have HF:=hide hfa
 clear hfa
 obtain⟨w1,hw1,aT,aj,hB⟩:=ak w #[.int .i64 e,.int .i64 n,v] 35
 obtain⟨w2,hw2,dz,au,hR⟩:=ak w1 #[.int .i64 0,.int .i64 0] 31
 rw[aT]at hR
 have aL:Below w.heap.size w w2:=aj.trans (au.mono (by omega))
 have hB2:=(au.block w.heap.size (by omega)).trans hB
 have c0:=ai hB2 0 rfl
 have c1:=ai hB2 1 rfl
 have c2:=ai hB2 2 rfl
 have h2:=h.below aL
 obtain⟨ao,cap,rfl,_,_⟩:=h.shape
 have HB:=hide hB2
 have HR:=hide hR
 clear hB hB2 hR aj au
 go_enter Tryz.func24,Tryz.ntmps24
 go_wp2_with fail
 refine(uD e n _ l _ h2 hf hl).mono ?_
 rintro E w3 ⟨rfl,aD⟩
 have cB:=aD.size
 have hB3:=(aD.block w.heap.size (by omega)).trans HB.out
 have bM:=(aD.block (w.heap.size+1) (by omega)).trans HR.out
 have aY:=aL.trans (aD.mono (by omega))
 have d0:=ai hB3 0 rfl
 have d1:=ai hB3 1 rfl
 clear c0 c1 c2 HB HR hB3 aL aD h2
 by_cases hc:Cm.chk e n l=0
 ·obtain⟨g1,g2,g3,g4,g5⟩:=Cm.aO hc
  by_cases hq:n-1≠nu∨e<ep
  ·obtain rfl:(15,at')=fa:=(Cm.ab9 (c:=⟨e,n,l⟩) hc hq).symm.trans HF.out
   rw[hc]
   obtain⟨V',hV',dN,cZ,⟨a0,a1⟩,⟨f0,f1⟩,⟨z0,z1⟩⟩:=dF bM (.int .i64 15) (.int .i64 at')
   have fE:=aB aY cZ (by omega) (by omega)
   clear hc dN cZ bM
   by_cases hq1:n-1=nu
   ·have hq2:e<ep:=by omega
    have hq3:(n-1 !=nu)=false:=by simpa using hq1
    clear hq hq1
    go_wp2
    refine bodyPost_ret (v:=.agg #[.int .i64 15,.int .i64 at']) (by simp[results,Tryz.results24,go_sem,z0,z1]) rfl ?_
    exact⟨rfl,fE⟩
   ·have hq3:(n-1 !=nu)=true:=by simpa using hq1
    clear hq hq1
    go_wp2
    refine bodyPost_ret (v:=.agg #[.int .i64 15,.int .i64 at']) (by simp[results,Tryz.results24,go_sem,z0,z1]) rfl ?_
    exact⟨rfl,fE⟩
  ·obtain rfl:(0,0)=fa:=(Cm.aew (c:=⟨e,n,l⟩) hc hq).symm.trans HF.out
   rw[hc]
   obtain⟨V',hV',dN,cZ,⟨a0,a1⟩,⟨f0,f1⟩,⟨z0,z1⟩⟩:=dF bM (.int .i64 0) (.int .i64 0)
   have fE:=aB aY cZ (by omega) (by omega)
   have hq3:(n-1 !=nu)=false:=by simp;omega
   have hq2:¬e<ep:=by omega
   clear hc dN cZ bM hq
   go_wp2
   refine bodyPost_ret (v:=.agg #[.int .i64 0,.int .i64 0]) (by simp[results,Tryz.results24,go_sem,z0,z1]) rfl ?_
   exact⟨rfl,fE⟩
 ·have hfo:(Cm.chk e n l,at')=fa:=(Cm.abW (c:=⟨e,n,l⟩) hc).symm.trans HF.out
  have hne:(Cm.chk e n l==0)=false:=by simpa using hc
  generalize Cm.chk e n l=ck at*
  subst hfo
  obtain⟨V',hV',dN,cZ,⟨a0,a1⟩,⟨f0,f1⟩,⟨z0,z1⟩⟩:=dF bM (.int .i64 ck) (.int .i64 at')
  have fE:=aB aY cZ (by omega) (by omega)
  clear hc dN cZ bM
  go_wp2
  refine bodyPost_ret (v:=.agg #[.int .i64 ck,.int .i64 at']) (by simp[results,Tryz.results24,go_sem,z0,z1]) rfl ?_
  exact⟨rfl,fE⟩
theorem apy {r:List Cw}{k:Nat}{c:Cw}(h:r[k]? =some c):(ay r).drop k=c.c::(ay r).drop (k+1):=by
 obtain⟨hk,rfl⟩:=List.getElem?_eq_some_iff.1 h
 unfold ay
 rw[←List.map_drop,←List.map_drop,List.drop_eq_getElem_cons hk,List.map_cons]
theorem jA (ep0 nu0:Int)(vl:Value)(r:List Cw)(w:World)(h:di w vl r)(hf:dL r)(hl:r.length≤140737488355328):
  Calls Tryz.prog 6 #[.int .i64 ep0,.int .i64 nu0,vl] w fun E w'=>E=.returned (rE (Cm.fol ep0 nu0 0 (ay r)))∧Below w.heap.size w w':=by
 unfold rE
 obtain⟨fa,hfa⟩:∃f,Cm.fol ep0 nu0 0 (ay r)=f:=⟨_,rfl⟩
 rw[hfa]
 have HF:=hide hfa
 clear hfa
 obtain⟨w1,hw1,aT,aj,hR⟩:=ak w #[.int .i64 0,.int .i64 0] 31
 have h1:=h.below aj
 have hR0:=ai hR 0 rfl
 have jF:=ai hR 1 rfl
 by_cases hz:r.length=0
 ·have:r=[]:=List.eq_nil_of_length_eq_zero hz
  subst this
  obtain⟨ao,cap,rfl,_,_⟩:=h.1.shape
  have hfo:=HF.out
  simp only[ay,List.map_nil,Cm.ag4]at hfo
  subst hfo
  obtain⟨V',hV',dN,cZ,⟨a0,a1⟩,⟨f0,f1⟩,⟨z0,z1⟩⟩:=dF hR (.int .i64 0) (.int .i64 0)
  have fE:=aB aj cZ (by omega) (by omega)
  clear h h1 hf hl hz HF dN cZ hR
  simp only[List.length_nil]
  go_enter Tryz.func6,Tryz.ntmps6
  go_wp2
  go_loopw [12] (fun iv wr=>iv=.int .i64 0∧wr=w1) (fun _ _=>0)
  case atStart=>exact⟨rfl,rfl⟩
  case round=>
   obtain⟨rfl,rfl⟩:=hrel
   go_wp2
   refine bodyPost_ret (v:=.agg #[.int .i64 0,.int .i64 0]) (by simp[results,Tryz.results6,go_sem,z0,z1]) rfl ?_
   exact⟨rfl,fE⟩
 obtain⟨b1,o1,c1,hvl,_,_,hB,hcell⟩:=h1.1.full (by omega)
 subst hvl
 have HIN:=hide h1.2
 have aoX:=hide hf
 have HC:=hide hcell
 have HRR:=hide hR
 generalize hn:r.length=n at*
 have HN:=hide hn
 clear h h1 hcell hf hR hR0 jF hn
 go_enter Tryz.func6,Tryz.ntmps6
 go_wp2
 go_loopw [0,1,12] (fun ev nv iv wr=>∃(k:Nat) (ep nu:Int),k≤n∧iv=.int .i64 k∧ev=.int .i64 ep∧nv=.int .i64 nu∧Hid (Cm.fol ep nu k ((ay r).drop k)=fa)∧Below w1.heap.size w1 wr) (fun _ _ iv _=>n-(intOf iv).toNat)
 case atStart=>exact⟨0,ep0,nu0,by omega,rfl,rfl,rfl,HF,Below.refl _ _⟩
 case round=>
  obtain⟨k,ep,nu,hk,rfl,rfl,rfl,HT,aF⟩:=hrel
  have sz:=aF.size
  by_cases hlt:k<n
  ·obtain⟨c,hc⟩:∃c,r[k]? =some c:=⟨r[k]'(by have:=HN.out;omega),by rw[List.getElem?_eq_getElem]⟩
   obtain⟨e0,e1,e2⟩:=HC.out k c hc
   have d0:=(aF.cell (p:=⟨b1,o1+k*3,none⟩) hB).trans e0
   have d1:=(aF.cell (p:=⟨b1,o1+k*3+1,none⟩) hB).trans e1
   have d2:=(aF.cell (p:=⟨b1,o1+k*3+2,none⟩) hB).trans e2
   have hmem:=List.mem_of_getElem? hc
   obtain⟨i1,_,_⟩:=HIN.out c hmem
   have i2:=i1.below aF
   obtain⟨hfc,hlc⟩:=aoX.out c hmem
   have HCD:=hide (apy hc)
   have hlt':(k:Int)<n:=by omega
   obtain⟨ao,cp,hcv,_,_⟩:=i2.shape
   rw[hcv]at d2 i2
   obtain⟨V,hV,hV2,jX,bf,bC,q0,q1,q2⟩:=fJ wr 35 (.int .i64 0) (.int .i64 0) (.slice none 0 0) (.int .i64 c.e) (.int .i64 c.n) (.slice ao c.l.length cp)
   have i3:=i2.below bf
   have BC:=hide bC
   clear e0 e1 e2 hc hmem i1 i2 hcv bC
   go_wp2_with fail
   refine(asj k ep nu c.e c.n _ c.l _ i3 hfc (by omega)).mono ?_
   rintro E w3 ⟨rfl,aD⟩
   have cB:=aD.size
   obtain⟨fl,hfl⟩:∃f,Cm.flt k ep nu ⟨c.e,c.n,c.l⟩=f:=⟨_,rfl⟩
   unfold rE
   rw[hfl]
   have ze:=hide hfl
   clear hfl
   obtain⟨fe,fp⟩:=fl
   simp only
   have bC3:=(aD.block wr.heap.size (by omega)).trans BC.out
   obtain⟨X,hX,hX2,szX,aoD,bF,x0,x1⟩:=nC w3 31 (.int .i64 0) (.int .i64 0) (.int .i64 fe) (.int .i64 fp)
   have bCX:=(aoD.block wr.heap.size (by omega)).trans bC3
   have u0:=ai bCX 0 rfl
   have u1:=ai bCX 1 rfl
   have gM:Below w1.heap.size w1 X:=((aF.trans (bf.mono (by omega))).trans (aD.mono (by omega))).trans (aoD.mono (by omega))
   have vT:=(gM.block w.heap.size (by omega)).trans HRR.out
   have hnq:=Tryz.zV fe fp 0 0
   have hgd:=Tryz.oG
   clear aF bf aD aoD BC bC3 bCX bF i3 q0 q1 q2 d0 d1 d2 hV hV2
   by_cases hfe:fe=0
   ·have hz:=Cm.aek (a:=k) (ep:=ep) (nu:=nu) (c:=⟨c.e,c.n,c.l⟩) (by rw[ze.out];exact hfe)
    have hfp:fp=0:=by have:=hz.2.2;rw[ze.out]at this;exact this
    have HT2:Hid (Cm.fol c.e c.n (k+1) ((ay r).drop (k+1))=fa):=hide (by
     have:=HT.out
     rw[HCD.out]at this
     rw[←this]
     exact(Cm.amR (c:=c.c) (by rw[show Cm.flt k ep nu c.c=(fe,fp)from ze.out];exact hfe)).symm)
    have hb:(!((fe==0)&&(fp==0)))=false:=by simp[hfe,hfp]
    rw[hb]at hnq
    clear hb hz hfe hfp vT ze HCD HT
    go_wp2_with fail
    go_quiet (fail)
    go_wp2
    go_roundw
    case rel=>exact⟨k+1,c.e,c.n,by omega,by go_num,rfl,rfl,HT2,below_drewN gM _⟩
    case measure=>simp[intOf];omega
   ·have hfo:(fe,fp)=fa:=by
     have:=HT.out
     rw[HCD.out]at this
     rw[←this,Cm.anC (c:=c.c) (by rw[show Cm.flt k ep nu c.c=(fe,fp)from ze.out];exact hfe)]
     exact ze.out.symm
    have hb:(!((fe==0)&&(fp==0)))=true:=by simp[hfe]
    rw[hb]at hnq
    subst hfo
    obtain⟨V',hV',dN,cZ,⟨a0,a1⟩,⟨f0,f1⟩,⟨z0,z1⟩⟩:=dF vT (.int .i64 fe) (.int .i64 fp)
    have fE:=aB (aj.trans (gM.mono (by omega))) cZ (by omega) (by omega)
    clear hb hfe vT ze HCD HT HF dN cZ u0 u1 gM
    go_wp2
    refine bodyPost_ret (v:=.agg #[.int .i64 fe,.int .i64 fp]) (by simp[results,Tryz.results6,go_sem,z0,z1]) rfl ?_
    exact⟨rfl,fE⟩
  ·have hlt':¬(k:Int)<n:=by omega
   have hfo:(0,0)=fa:=by
    have:=HT.out
    rw[List.drop_of_length_le (by unfold ay;rw[List.length_map,HN.out];omega),Cm.ag4]at this
    exact this
   subst hfo
   have vT:=(aF.block w.heap.size (by omega)).trans HRR.out
   obtain⟨V',hV',dN,cZ,⟨a0,a1⟩,⟨f0,f1⟩,⟨z0,z1⟩⟩:=dF vT (.int .i64 0) (.int .i64 0)
   have fE:=aB (aj.trans (aF.mono (by omega))) cZ (by omega) (by omega)
   clear vT HT HF dN cZ aF
   go_wp2
   refine bodyPost_ret (v:=.agg #[.int .i64 0,.int .i64 0]) (by simp[results,Tryz.results6,go_sem,z0,z1]) rfl ?_
   exact⟨rfl,fE⟩
def yQ (s:Sm.S):List Value:=[.int .i64 s.1,.int .i64 s.2]
theorem yo (s:Sm.S):(yQ s).length=2:=rfl
abbrev jH (w:World) (v:Value) (l:List Sm.S):Prop:=gP yQ w v l
abbrev jU (base:Nat) (w:World) (v:Value) (l:List Sm.S):Prop:=dM yQ 2 72 base w v l
theorem ahi:∀(l:List Sm.S),∀u∈gcells yQ l,u.oneCell'=true
 |[],u,h=>by simp[gcells]at h
 |s::r,u,h=>by
  rcases List.mem_append.1 h with h|h
  ·simp only[yQ,List.mem_cons,List.not_mem_nil,or_false]at h
   rcases h with rfl|rfl<;>rfl
  ·exact ahi r u h
theorem j6 {w:World}{v:Value}{l:List Sm.S}(h:jH w v l)(hne:0<l.length):
  ∃b off cap,v=.slice (some ⟨b,off,none⟩) l.length cap∧l.length≤cap∧cap≤maxLen∧b<w.heap.size∧∀(i:Nat) (s:Sm.S),l[i]? =some s→w.cell? ⟨b,off+i*2,none⟩=some (.int .i64 s.1)∧w.cell? ⟨b,off+i*2+1,none⟩=some (.int .i64 s.2):=by
 obtain⟨b,off,cap,h1,h2,h3,h4,h5⟩:=h.full yo (by decide) hne
 exact⟨b,off,cap,h1,h2,h3,h4,fun i s hs=>⟨h5 i s hs 0 _ rfl,h5 i s hs 1 _ rfl⟩⟩
theorem ah4 {w:World}{v:Value}{l:List Sm.S}(h:jH w v l)(n:Nat):jH (w.drewN n) v l:=h.agree fun _ _=>rfl
theorem aly (v:Value)(l:List Sm.S)(w:World)(h:jH w v l)(hl:l.length≤140737488355328):
  Calls Tryz.prog 97 #[v] w fun E w'=>E=.returned (.int .i64 (Sm.dH l))∧w'=w:=by
 by_cases hz:l.length=0
 ·have:l=[]:=List.eq_nil_of_length_eq_zero hz
  subst this
  obtain⟨ao,cap,rfl,_,_⟩:=h.shape
  simp only[List.length_nil]
  clear h hl hz
  go_enter Tryz.func97,Tryz.ntmps97
  go_wp2
  go_ret
  exact⟨rfl,rfl⟩
 ·obtain⟨b,off,cap,rfl,_,_,hB,hc⟩:=j6 h (by omega)
  obtain⟨s,hs⟩:=kV (l:=l) (k:=l.length-1) (by omega)
  obtain⟨c0,c1⟩:=hc _ _ hs
  rw[Sm.tV hs]
  generalize hn:l.length=n at*
  obtain⟨k,rfl⟩:∃k,n=k+1:=⟨n-1,by omega⟩
  simp only[Nat.add_sub_cancel]at c0 c1
  clear h hc hs hn
  have hne:((((k+1:Nat):Int))==0)=false:=by simp;omega
  have hsub:(((k+1:Nat):Int))-1=(k:Int):=by omega
  go_enter Tryz.func97,Tryz.ntmps97
  go_wp2
  go_ret
  exact⟨rfl,rfl⟩
def zL (en:Int) (l:List Sm.S):Bool:=Sm.upb en 0 0 l&&decide ((l.map Prod.snd).headD 1=1)
theorem zI {en:Int}{l:List Sm.S}:zL en l=true↔Sm.Up en 0 0 l∧(l.map Prod.snd).headD 1=1:=by
 unfold zL
 rw[Bool.and_eq_true,Sm.abH,decide_eq_true_iff]
theorem abC {en:Int}{l:List Sm.S}(h:¬(Sm.Up en 0 0 l∧(l.map Prod.snd).headD 1=1)):zL en l=false:=by
 cases hu:zL en l with
 |false=>rfl
 |true=>exact absurd (zI.1 hu) h
theorem ag6 {l:List Sm.S}{s:Sm.S}(h:l[0]? =some s):(l.map Prod.snd).headD 1=s.2:=by
 cases l with
 |nil=>simp at h
 |cons t r=>simp at h;subst h;rfl
theorem anW (v:Value)(l:List Sm.S)(en:Int)(w:World)(h:jH w v l)(hl:l.length≤140737488355328):
  Calls Tryz.prog 197 #[v,.int .i64 en] w fun E w'=>E=.returned (.bool (zL en l))∧Below w.heap.size w w':=by
 obtain⟨ans,dU⟩:∃r,zL en l=r:=⟨_,rfl⟩
 rw[dU]
 have HA:=hide dU
 clear dU
 obtain⟨w1,hw1,aT,aj,hR⟩:=ak w #[.int .i64 0,.int .i64 0] 72
 have h1:=h.below aj
 by_cases hz:l.length=0
 ·have:l=[]:=List.eq_nil_of_length_eq_zero hz
  subst this
  obtain⟨ao,cap,rfl,_,_⟩:=h.shape
  have hfo:=HA.out
  have hfe:zL en []=true:=rfl
  rw[hfe]at hfo
  subst hfo
  clear h h1 hl hz HA hR
  simp only[List.length_nil]
  go_enter Tryz.func197,Tryz.ntmps197
  go_wp2
  go_loopw [10] (fun iv wr=>iv=.int .i64 0∧wr=w1) (fun _ _=>0)
  case atStart=>exact⟨rfl,rfl⟩
  case round=>
   obtain⟨rfl,rfl⟩:=hrel
   go_wp2
   go_ret
   exact⟨rfl,aj⟩
 obtain⟨b,off,cap,hvl,_,_,hB,hc⟩:=j6 h (by omega)
 subst hvl
 obtain⟨s0,hs0⟩:=kV (l:=l) (k:=0) (by omega)
 have HC:=hide hc
 have H0:=hide hs0
 generalize hn:l.length=n at*
 have HN:=hide hn
 clear h h1 hc hn hs0
 go_enter Tryz.func197,Tryz.ntmps197
 go_wp2
 go_loopw [10] (fun iv wr=>∃(k:Nat) (e f:Int),k≤n∧iv=.int .i64 k∧Hid (Sm.Up en 0 0 l↔Sm.Up en e f (l.drop k))∧Below w.heap.size w wr∧wr.heap[w.heap.size]? =some (.cells #[.int .i64 e,.int .i64 f] 72 (0,0))) (fun iv _=>n-(intOf iv).toNat)
 case atStart=>exact⟨0,0,0,by omega,rfl,hide (by simp),aj,hR⟩
 case round=>
  obtain⟨k,e,f,hk,rfl,HT,aF,hG⟩:=hrel
  have sz:=aF.size
  have szG:=ax hG
  by_cases hlt:k<n
  ·obtain⟨s,hs⟩:=kV (l:=l) (k:=k) (by have:=HN.out;omega)
   obtain⟨e0,e1⟩:=HC.out k s hs
   have d0:=(aF.cell (p:=⟨b,off+k*2,none⟩) hB).trans e0
   have d1:=(aF.cell (p:=⟨b,off+k*2+1,none⟩) hB).trans e1
   have HU:=hide (HT.out.trans (Sm.ar3 (en:=en) (e:=e) (f:=f) hs))
   have hlt':(k:Int)<n:=by omega
   obtain⟨V,hV,hV2,jX,bf,bC,q0,q1⟩:=nC wr 72 (.int .i64 0) (.int .i64 0) (.int .i64 s.1) (.int .i64 s.2)
   have hGV:=(bf.block w.heap.size (by omega)).trans hG
   have g0:=ai hGV 0 rfl
   have g1:=ai hGV 1 rfl
   have gM:Below w.heap.size w V:=aF.trans (bf.mono (by omega))
   clear e0 e1 hs hG HT bC bf aF hw1
   by_cases hg:e<s.1∧s.1≤1048576∧f<s.2∧s.2≤en
   ·have p1:¬s.1≤e:=by omega
    have p2:¬(1048576:Int)<s.1:=by omega
    have p3:¬s.2≤f:=by omega
    have p4:¬en<s.2:=by omega
    obtain⟨V',hV',dN,cZ,⟨a0,a1⟩,⟨f0,f1⟩,⟨z0,z1⟩⟩:=dF hGV (.int .i64 s.1) (.int .i64 s.2)
    have fE:=aB gM cZ (by omega) (by omega)
    have HT2:Hid (Sm.Up en 0 0 l↔Sm.Up en s.1 s.2 (l.drop (k+1))):=hide (by
     rw[HU.out]
     constructor
     ·rintro⟨_,_,_,_,h⟩;exact h
     ·intro h;exact⟨hg.1,hg.2.1,hg.2.2.1,hg.2.2.2,h⟩)
    clear hg HU cZ gM hGV
    go_wp2
    go_roundw
    case rel=>exact⟨k+1,s.1,s.2,by omega,by go_num,HT2,fE,dN⟩
    case measure=>simp[intOf];omega
   ·have hfo:=HA.out
    have hno:¬Sm.Up en 0 0 l:=fun h=>hg ⟨(HU.out.1 h).1,(HU.out.1 h).2.1,(HU.out.1 h).2.2.1,(HU.out.1 h).2.2.2.1⟩
    rw[abC (fun h=>hno h.1)]at hfo
    subst hfo
    have hq:s.1≤e∨(¬s.1≤e∧(1048576:Int)<s.1)∨(¬s.1≤e∧¬(1048576:Int)<s.1∧s.2≤f)∨(¬s.1≤e∧¬(1048576:Int)<s.1∧¬s.2≤f∧en<s.2):=by omega
    clear hg HU hGV hno HA
    rcases hq with p|⟨p1,p⟩|⟨p1,p2,p⟩|⟨p1,p2,p3,p⟩<;>(go_wp2;go_ret;exact⟨rfl,gM⟩)
  ·have hlt':¬(k:Int)<n:=by omega
   have hkn:k=n:=by omega
   have hup:Sm.Up en 0 0 l:=HT.out.2 (by rw[List.drop_of_length_le (by have:=HN.out;omega)];trivial)
   have hfo:=HA.out
   obtain⟨c0,c1⟩:=HC.out 0 s0 H0.out
   have d1:=(aF.cell (p:=⟨b,off+0*2+1,none⟩) hB).trans c1
   simp only[Nat.zero_mul,Nat.add_zero]at d1
   have hne:((n:Int)==0)=false:=by simp;omega
   by_cases hq:s0.2=1
   ·rw[zI.2 ⟨hup,(ag6 H0.out).trans hq⟩]at hfo
    subst hfo
    rw[hq]at d1
    clear HA hup c0 c1 hG HT
    go_wp2
    go_ret
    exact⟨rfl,aF⟩
   ·rw[abC (fun h=>hq ((ag6 H0.out).symm.trans h.2))]at hfo
    subst hfo
    have hq':(s0.2==1)=false:=by simpa using hq
    clear HA hup c0 c1 hG HT hq
    go_wp2
    go_ret
    exact⟨rfl,aF⟩
theorem ald {n:Nat}{en:Int}(h:n=0↔en=0):∃b:Bool,((n:Int)==0)=b∧(en==0)=b:=by
 by_cases hn:n=0
 ·exact⟨true,by simp[hn],by simp[h.1 hn]⟩
 ·exact⟨false,by simp;omega,by simp;exact fun e=>hn (h.2 e)⟩
theorem ao4 {n:Nat}{en:Int}(h:¬(n=0↔en=0)):(((n:Int)==0)=true∧(en==0)=false)∨(((n:Int)==0)=false∧(en==0)=true):=by
 by_cases hn:n=0
 ·exact .inl ⟨by simp[hn],by simp;exact fun e=>h ⟨fun _=>e,fun _=>hn⟩⟩
 ·refine .inr ⟨by simp;omega,?_⟩
  simp
  rcases Classical.em (en=0)with g|g
  ·exact g
  ·exact absurd ⟨fun k=>absurd k hn,fun k=>absurd k g⟩ h
theorem uw (v:Value)(l:List Sm.S)(en:Int)(w:World)(h:jH w v l)(hl:l.length≤140737488355328):
  Calls Tryz.prog 163 #[v,.int .i64 en] w fun E w'=>E=.returned (.int .i64 (Sm.chk l en))∧Below w.heap.size w w':=by
 have X:=hide (anW v l en w h hl)
 obtain⟨ao,cap,rfl,_,_⟩:=h.shape
 obtain⟨ans,dU⟩:∃r,Sm.chk l en=r:=⟨_,rfl⟩
 rw[dU]
 have HA:=hide dU
 have HL:=hide hl
 generalize hn:l.length=n at*
 have HN:=hide hn
 clear h dU hl hn
 have no:∀{p:Prop},(Sm.Ok l en→False)→ans=5:=fun h=>by rw[←HA.out];exact Sm.ik h
 have NO:Hid ((Sm.Ok l en→False)→ans=5):=hide fun h=>no (p:=True) h
 clear no
 by_cases h1:en<0
 ·obtain rfl:=NO.out fun h=>by have:=h.1;omega
  clear HA NO X
  go_enter Tryz.func163,Tryz.ntmps163
  go_wp2
  go_ret
  exact⟨rfl,Below.refl _ _⟩
 by_cases h2:(1048576:Int)<en
 ·obtain rfl:=NO.out fun h=>by have:=h.2.1;omega
  clear HA NO X
  go_enter Tryz.func163,Tryz.ntmps163
  go_wp2
  go_ret
  exact⟨rfl,Below.refl _ _⟩
 by_cases h3:n=0↔en=0
 ·obtain⟨bb,n0,e0⟩:=ald h3
  have HI:=hide h3
  by_cases h4:Sm.Up en 0 0 l∧(l.map Prod.snd).headD 1=1
  ·have hfo:=HA.out
   rw[Sm.fZ ⟨by omega,by omega,by rw[HN.out];exact h3,h4.1,h4.2⟩]at hfo
   subst hfo
   rw[zI.2 h4]at X
   clear HA NO h4 h3 HI
   go_enter Tryz.func163,Tryz.ntmps163
   go_wp2_with fail
   refine X.out.mono ?_
   rintro E w2 ⟨rfl,au⟩
   go_wp2
   go_ret
   exact⟨rfl,au⟩
  ·obtain rfl:=NO.out fun h=>h4 ⟨h.2.2.2.1,h.2.2.2.2⟩
   rw[abC h4]at X
   clear HA NO h4 h3 HI
   go_enter Tryz.func163,Tryz.ntmps163
   go_wp2_with fail
   refine X.out.mono ?_
   rintro E w2 ⟨rfl,au⟩
   go_wp2
   go_ret
   exact⟨rfl,au⟩
 ·obtain rfl:=NO.out fun h=>h3 (by rw[←HN.out];exact h.2.2.1)
  have hq:=ao4 h3
  clear HA NO X h3
  go_enter Tryz.func163,Tryz.ntmps163
  rcases hq with⟨n0,e0⟩|⟨n0,e0⟩<;>(go_wp2;go_ret;exact⟨rfl,Below.refl _ _⟩)
def behind:Bm.Ov:=⟨true,⟨#[98,101,104,105,110,100]⟩,⟨#[]⟩⟩
theorem ama {c d:Cw}(h:c.c=d.c):c.e=d.e∧c.n=d.n∧c.l=d.l:=by
 unfold Cw.c at h
 simpa using h
theorem nA (r:List Cw)(k:Nat):ay (r.take k)=(ay r).take k:=by unfold ay;rw[List.map_take]
theorem an2 {rs r:List Cw}{k:Nat}{c d:Cw}(h:ay rs=ay (r.take k))(hd:r[k]? =some d)(he:c.c=d.c):ay (rs++[c])=ay (r.take (k+1)):=by
 obtain⟨hk,rfl⟩:=List.getElem?_eq_some_iff.1 hd
 rw[List.take_succ_eq_append_getElem hk]
 unfold ay at h⊢
 rw[List.map_append,List.map_append,h]
 simp[he]
def dR (base:Nat) (w:World) (rs:List Cw):Prop:=∀c∈rs,bg 111 base w c.v c.l
theorem dR.below {base:Nat}{w w':World}{rs:List Cw}(h:dR base w rs)(hb:Below w.heap.size w w'):dR base w' rs:=fun c hc=>(h c hc).below hb
theorem dR.iJ {base:Nat}{w w':World}{rs:List Cw}(h:dR base w rs)(hb:bH 35 w w'):dR base w' rs:=fun c hc=>(h c hc).iJ hb (by decide)
theorem dR.snoc {base:Nat}{w:World}{rs:List Cw}(h:dR base w rs){c:Cw}(hc:bg 111 base w c.v c.l):dR base w (rs++[c]):=fun d hd=>(List.mem_append.1 hd).elim (h d) (fun h=>by rw[List.mem_singleton.1 h];exact hc)
theorem vY {w:World}{b o:Nat}{r:List Cw}(h:∀i c,r[i]? =some c→w.cell? ⟨b,o+i*3,none⟩=some (.int .i64 c.e)∧w.cell? ⟨b,o+i*3+1,none⟩=some (.int .i64 c.n)∧w.cell? ⟨b,o+i*3+2,none⟩=some c.v){w':World}{base:Nat}(hb:Below base w w')(hB:b<base){k:Nat}{c:Cw}(hc:r[k]? =some c):
  w'.cell? ⟨b,o+k*3,none⟩=some (.int .i64 c.e)∧w'.cell? ⟨b,o+k*3+1,none⟩=some (.int .i64 c.n)∧w'.cell? ⟨b,o+k*3+2,none⟩=some c.v:=by
 obtain⟨e0,e1,e2⟩:=h k c hc
 exact⟨(hb.cell (p:=⟨b,o+k*3,none⟩) hB).trans e0,(hb.cell (p:=⟨b,o+k*3+1,none⟩) hB).trans e1,(hb.cell (p:=⟨b,o+k*3+2,none⟩) hB).trans e2⟩
end Go.Proofs.YtmngcecomcadkaaGreatDoor
