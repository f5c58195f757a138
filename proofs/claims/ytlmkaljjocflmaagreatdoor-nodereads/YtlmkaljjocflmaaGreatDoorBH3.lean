/- Texts. -/
import Derived.Test.YtlmkaljjocflmaaGreatDoorBH2
import Derived.Test.YtlmkaljjocflmaaGreatDoorBG1
import Derived.Test.YtlmkaljjocflmaaGreatDoorBH1
import Derived.Lib.SliceRun
import Derived.Shelf.Abstract
set_option maxRecDepth 100000
set_option maxHeartbeats 8000000
set_option linter.unusedVariables false
open Go.Proofs.Tryz
namespace Go.Proofs.YtlmkaljjocflmaaGreatDoor
open Go.RowKit
def pI (o:Bm.Ov):List Value:=[.bool o.p,.string o.k,.string o.v]
def ocells:List Bm.Ov→List Value
 |[]=>[]
 |o::r=>pI o++ocells r
theorem o9:∀(l:List Bm.Ov),(ocells l).length=l.length*3
 |[]=>rfl
 |o::r=>by
  have:=o9 r
  simp only[ocells,pI,List.length_append,List.length_cons,List.length_nil]
  omega
theorem vK:∀(l m:List Bm.Ov),ocells (l++m)=ocells l++ocells m
 |[],_=>rfl
 |o::l,m=>by simp only[List.cons_append,ocells,vK l m,List.append_assoc]
theorem sG:∀(l:List Bm.Ov),∀u∈ocells l,u.oneCell'=true
 |[],u,h=>by simp[ocells]at h
 |o::r,u,h=>by
  rcases List.mem_append.1 h with h|h
  ·simp only[pI,List.mem_cons,List.not_mem_nil,or_false]at h
   rcases h with rfl|rfl|rfl<;>rfl
  ·exact sG r u h
theorem yD:∀(l:List Bm.Ov) (i:Nat) (hi:i<l.length),(ocells l)[i*3]? =some (.bool l[i].p)∧(ocells l)[i*3+1]? =some (.string l[i].k)∧(ocells l)[i*3+2]? =some (.string l[i].v)
 |[],_,hi=>by simp at hi
 |o::r,0,hi=>by simp[ocells,pI]
 |o::r,i+1,hi=>by
  have:=yD r i (by simpa using hi)
  simp only[ocells,pI]
  rw[show(i+1)*3=i*3+3 by omega]
  simpa[List.getElem?_append]using this
def bM (w:World) (v:Value) (l:List Bm.Ov):Prop:=
 (v=.slice none 0 0∧l=[])∨∃ad cap,v=.slice (some ad) l.length cap∧l.length≤cap∧cap≤maxLen∧∀j u,(ocells l)[j]? =some u→w.cell? (ad.add j)=some u
def aT (e:TypeId) (base:Nat) (w:World) (v:Value) (l:List Bm.Ov):Prop:=w.ownsRow base e 3 v l.length (ocells l)
def dZ (l:List Bm.Ov):Prop:=∀o∈l,o.k.size≤140737488351232∧o.v.size≤140737488351232
theorem bM.nil (w:World):bM w (.slice none 0 0) []:=.inl ⟨rfl,rfl⟩
theorem aT.nil (e:TypeId)(base:Nat)(w:World):aT e base w (.slice none 0 0) []:=World.ownsRow_nil _ _ _ _
theorem bM.below {w w':World}{v:Value}{l:List Bm.Ov}(h:bM w v l)(hb:Bq w w'):bM w' v l:=by
 rcases h with h|⟨ad,cap,hv,h1,h2,hc⟩
 ·exact .inl h
 ·refine .inr ⟨ad,cap,hv,h1,h2,fun j u hj=>?_⟩
  have:=hc j u hj
  rw[hb.cell (World.block_lt_of_cell? _ _ this)]
  exact this
theorem bM.drewN {w:World}{v:Value}{l:List Bm.Ov}(h:bM w v l)(n:Nat):bM (w.drewN n) v l:=h.below (below_drewN (Below.refl _ _) n)
theorem bM.shape {w:World}{v:Value}{l:List Bm.Ov}(h:bM w v l):∃ao cap,v=.slice ao l.length cap∧l.length≤cap∧cap≤maxLen:=by
 rcases h with⟨hv,e⟩|⟨ad,cap,hv,h1,h2,_⟩
 ·subst e;exact⟨none,0,hv,by simp,by simp⟩
 ·exact⟨some ad,cap,hv,h1,h2⟩
theorem bM.bare {w:World}{v:Value}(h:bM w v []):∃ao cap,v=.slice ao 0 cap:=by
 obtain⟨ao,cap,h,_⟩:=h.shape
 exact⟨ao,cap,h⟩
theorem bM.full {w:World}{v:Value}{l:List Bm.Ov}(h:bM w v l)(hne:0<l.length):
  ∃b off cap,v=.slice (some ⟨b,off,none⟩) l.length cap∧l.length≤cap∧cap≤maxLen∧b<w.heap.size∧
   ∀i o,l[i]? =some o→w.cell? ⟨b,off+i*3,none⟩=some (.bool o.p)∧w.cell? ⟨b,off+i*3+1,none⟩=some (.string o.k)∧w.cell? ⟨b,off+i*3+2,none⟩=some (.string o.v):=by
 rcases h with⟨_,h⟩|⟨⟨b,off,spot⟩,cap,hv,h1,h2,hc⟩
 ·subst h;simp at hne
 ·have h0:=hc 0 _ (yD l 0 hne).1
  have hspot:spot=none:=by simpa[Addr.add]using World.cell?_spot h0
  subst hspot
  refine⟨b,off,cap,hv,h1,h2,World.block_lt_of_cell? _ _ h0,fun i o jP=>?_⟩
  obtain⟨hi,rfl⟩:=List.getElem?_eq_some_iff.1 jP
  obtain⟨g1,g2,g3⟩:=yD l i hi
  have k1:=hc _ _ g1
  have k2:=hc _ _ g2
  have k3:=hc _ _ g3
  rw[gG]at k1 k2 k3
  exact⟨k1,by rw[Nat.add_assoc];exact k2,by rw[Nat.add_assoc];exact k3⟩
theorem aT.is {e base:Nat}{w:World}{v:Value}{l:List Bm.Ov}(h:aT e base w v l):bM w v l:=by
 rcases h.2 with⟨hv,hn⟩|⟨g,cap,cur,hv,h1,hh,hc,hm,hs,ht⟩
 ·exact .inl ⟨hv,List.eq_nil_of_length_eq_zero hn⟩
 ·refine .inr ⟨⟨g,0,none⟩,cap,hv,hc,hm,fun j u hj=>?_⟩
  exact h.cells (by rw[hv];rfl) j u hj
theorem aT.below {e base:Nat}{w w':World}{v:Value}{l:List Bm.Ov}(h:aT e base w v l)(hb:Bq w w'):aT e base w' v l:=by
 refine⟨h.1,?_⟩
 rcases h.2 with h|⟨g,cap,cur,hv,h1,hh,r⟩
 ·exact .inl h
 ·refine .inr ⟨g,cap,cur,hv,h1,?_,r⟩
  rw[hb.block g (Array.getElem?_eq_some_iff.1 hh).1]
  exact hh
theorem aT.kept {e base:Nat}{w w':World}{v:Value}{l:List Bm.Ov}{row:Option Nat}(h:aT e base w v l)(hg:w.grownBy w' row)(hne:v.ownBlock=none∨v.ownBlock≠row):aT e base w' v l:=World.ownsRow.kept h hg hne
theorem aT.bn {e base base':Nat}{w:World}{v:Value}{l:List Bm.Ov}(h:aT e base w v l)(hb:base'≤base):aT e base' w v l:=by
 refine⟨h.1,?_⟩
 rcases h.2 with h|⟨g,cap,cur,hv,h1,r⟩
 ·exact .inl h
 ·exact .inr ⟨g,cap,cur,hv,by omega,r⟩
theorem aT.block {e base:Nat}{w:World}{v:Value}{l:List Bm.Ov}(h:aT e base w v l):∀b,v.ownBlock=some b→base≤b∧b<w.heap.size:=World.ownsRow.lt h
theorem qO (e:TypeId)(w:World)(cs:Array Value)(n:Nat)(l:List Bm.Ov)(hn:l.length=n)(h:cs.toList=ocells l)(hm:n≤maxLen):
  ∃W,w.alloc (.cells cs e)=W∧W.heap.size=w.heap.size+1∧Bq w W∧aT e w.heap.size W (.slice (some ⟨w.heap.size,0,none⟩) n n) l:=by
 subst hn
 refine⟨_,rfl,by simp,(Below.refl _ _).alloc (Nat.le_refl _) _,?_⟩
 have ho:=World.ownsRow_lit (base:=w.heap.size) (e:=e) (size:=3) w cs l.length (Nat.le_refl _) hm (by have:=congrArg List.length h;rw[o9]at this;simpa using this)
 rw[h]at ho
 exact ho
section
variable {P:Program} {w:World} {ops:Array Oper} {rest:List Oper} {o:Oper} {a:Act} {Q:Exit→Act→World→Prop}
theorem kT (hgd:o.guard=none)(s x:Operand)(t:TypeId)
  (ho:o.op=.call {callee:=.builtin .append,args:=#[s,x],argTypes:=#[t,t]})
  (e:TypeId) (base:Nat) (ht:P.underlying t=some (.slice e)) (hinfo:(P.info? e).map (fun i=>(i.zero,i.size,i.bytes))=some (some (.agg #[.bool false,.string ⟨#[]⟩,.string ⟨#[]⟩]),3,40))
  (v:Value) (l:List Bm.Ov) (hs:a.eval s=v) (hown:aT e base w v l) (vx:Value) (m:List Bm.Ov) (hx:a.eval x=vx) (his:bM w vx m)
  (hlen:(l.length+m.length)*40≤140737488355328) (hbase:base≤w.heap.size)
  (h:∀v' w',aT e base w' v' (l++m)→Below base w w'→w.grownBy w' v.ownBlock→wpList P ops Q rest (a.put o.dst v') w'):wpList P ops Q (o::rest) a w:=by
 obtain⟨i,hi,hz,hsize,hb⟩:=info_parts hinfo
 have hn:l.length+m.length≤140737488355328:=by omega
 rcases his with⟨hv,hy⟩|⟨ad,cap,hv,h1,h2,hc⟩
 ·subst hy
  refine wpList_append_own_none hgd s x t ho base e i 3 ht hi v l.length _ hs hown (hx.trans hv) (h v w (by simpa using hown) (Below.refl _ _) (World.grownBy.refl _ _))
 ·refine wpList_append_own w hgd s x t ho base e i _ 3 40 ht hi hz hsize hb rfl (by decide) v l.length _ hs hown ad m.length cap (ocells m) (hx.trans hv) (o9 m) hc (sG m) (by unfold maxLen;omega) hlen hbase ?_
  intro v' w' ho' hg _
  refine h v' w' (by unfold aT;rw[vK,List.length_append];exact ho') ((Below.refl _ _).grown hg hbase fun k' hk=>?_) hg
  exact(World.ownsRow.lt hown k' hk).1
end
theorem Tryz.wY:(prog.info? 71).map (fun i=>(i.zero,i.size,i.bytes))=some (some (.agg #[.bool false,.string ⟨#[]⟩,.string ⟨#[]⟩]),3,40):=by kernel_rfl
theorem abV {l:List Bm.Ov}{k:Nat}{o:Bm.Ov}(h:∀q∈l.take k,q.c=0)(ho:l[k]? =some o)(hc:o.c=0):∀q∈l.take (k+1),q.c=0:=by
 obtain⟨hk,rfl⟩:=List.getElem?_eq_some_iff.1 ho
 intro q hq
 rw[List.take_succ_eq_append_getElem hk]at hq
 rcases List.mem_append.1 hq with hq|hq
 ·exact h q hq
 ·rw[List.mem_singleton.1 hq];exact hc
theorem kN (vl:Value)(l:List Bm.Ov)(w:World)(h:bM w vl l)(hf:dZ l)(hl:l.length≤140737488355328):
  Calls prog 151 #[vl] w fun E w'=>E=.returned (.int .i64 (Bm.cO l))∧Bq w w':=by
 by_cases h0:l.length=0
 ·have:l=[]:=List.eq_nil_of_length_eq_zero h0
  subst this
  obtain⟨ao,cap,rfl⟩:=h.bare
  clear h hf hl h0
  go_enter func151,ntmps151
  go_wp2
  go_ret
  exact⟨rfl,Below.refl _ _⟩
 ·by_cases h8:8<l.length
  ·obtain⟨ao,cap,rfl,_,_⟩:=h.shape
   rw[Bm.anR h8]
   clear h hf
   have e0:((l.length:Int)==0)=false:=by rw[beq_eq_false_iff_ne];omega
   have e8:(8:Int)<l.length:=by omega
   go_enter func151,ntmps151
   go_wp2
   go_ret
   exact⟨rfl,Below.refl _ _⟩
  ·obtain⟨b1,o1,c1,rfl,_,_,hB,hcell⟩:=h.full (by omega)
   rw[Bm.aoD h0 h8]
   have e0:((l.length:Int)==0)=false:=by rw[beq_eq_false_iff_ne];omega
   have e8:¬(8:Int)<l.length:=by omega
   clear h
   generalize hn:l.length=n at*
   have HN:=hide hn
   have HC:=hide hcell
   have HF:=hide hf
   clear hn hcell hf
   go_enter func151,ntmps151
   go_wp2
   go_loopw [14] (fun i wr=>∃(k:Nat),k≤n∧i=.int .i64 k∧Hid (∀q∈l.take k,q.c=0)∧Bq w wr) (fun i _=>n-(intOf i).toNat)
   case atStart=>exact⟨0,by omega,rfl,hide (by simp),Below.refl _ _⟩
   case round=>
    obtain⟨k,hk,rfl,HT,aI⟩:=hrel
    by_cases hlt:k<n
    ·obtain⟨o,ho⟩:∃o,l[k]? =some o:=⟨l[k]'(by have:=HN.out;omega),by rw[List.getElem?_eq_getElem]⟩
     obtain⟨c0,c1,c2⟩:=HC.out k o ho
     have sz:=aI.size
     have d0:=(aI.cell (p:=⟨b1,o1+k*3,none⟩) hB).trans c0
     have d1:=(aI.cell (p:=⟨b1,o1+k*3+1,none⟩) hB).trans c1
     have d2:=(aI.cell (p:=⟨b1,o1+k*3+2,none⟩) hB).trans c2
     have HO:=hide ho
     clear c0 c1 c2 ho
     have hlt':(k:Int)<n:=by omega
     obtain⟨hk1,hv1⟩:=HF.out o (List.mem_of_getElem? HO.out)
     go_wp2_with fail
     refine(lX o.p o.k o.v _ hk1 hv1).mono ?_
     rintro E w1 ⟨rfl,aj⟩
     have dh:Bq wr (wr.alloc (.cells #[.bool o.p,.string o.k,.string o.v] 71)):=(Below.refl _ _).alloc (Nat.le_refl _) _
     have az:Bq w w1:=(aI.trans (dh.mono sz)).trans (aj.mono (by simp;omega))
     clear dh aj d0 d1 d2
     rcases(show Om.chk o.p o.k.data.toList o.v.data.toList=0∨_ from Om.yX _ _ _)with hc|hc
     ·rw[hc]
      have HT2:=hide (abV HT.out HO.out hc)
      clear hc
      go_wp2
      go_roundw
      case rel=>exact⟨k+1,by omega,by go_num,HT2,az⟩
      case measure=>simp[intOf];omega
     ·rw[hc]
      have HB:=hide (Bm.adb (List.mem_of_getElem? HO.out) (show Bm.Ov.c o≠0 by unfold Bm.Ov.c Bm.Ov.kl Bm.Ov.vl;rw[hc];simp))
      clear hc
      go_wp2
      go_ret
      exact⟨jh HB.out.symm,az⟩
    ·have hkn:k=n:=by omega
     have HB:Hid (Bm.first l=0):=hide (Bm.oG (fun q hq=>HT.out q (by rw[List.take_of_length_le (by have:=HN.out;omega)];exact hq)))
     have hlt':¬(k:Int)<n:=by omega
     go_wp2
     go_ret
     exact⟨jh HB.out.symm,aI⟩
theorem ae0 (a b:ByteArray)(w:World)(ha:a.size≤140737488355328)(hb:b.size≤140737488355328):
  Calls prog 305 #[.string a,.string b] w fun E w'=>E=.returned (.int .i64 (Bm.com a.data.toList b.data.toList))∧∃m,w'=w.drewN m:=by
 have la:a.data.toList.length=a.size:=(Lib.size_eq a).symm
 have lb:b.data.toList.length=b.size:=(Lib.size_eq b).symm
 go_enter func305,ntmps305
 go_wp2
 all_goals
  go_loopw [13] (fun i wr=>∃(k:Nat),k≤a.size∧k≤b.size∧i=.int .i64 k∧Hid (a.data.toList.take k=b.data.toList.take k)∧∃m,wr=w.drewN m) (fun i _=>a.size+b.size-(intOf i).toNat)
  case atStart=>exact⟨0,by omega,by omega,rfl,hide rfl,0,rfl⟩
  case round=>
   obtain⟨k,hka,hkb,rfl,HT,m,rfl⟩:=hrel
   by_cases hA:k<a.size
   ·by_cases hB:k<b.size
    ·have hA':(k:Int)<a.size:=by omega
     have hB':(k:Int)<b.size:=by omega
     obtain⟨c,hc⟩:∃c:UInt8,a[k]=c:=⟨_,rfl⟩
     obtain⟨d,hd⟩:∃c:UInt8,b[k]=c:=⟨_,rfl⟩
     have ea:a.data.toList[k]? =some c:=by rw[List.getElem?_eq_getElem (by omega),←hc];rfl
     have eb:b.data.toList[k]? =some d:=by rw[List.getElem?_eq_getElem (by omega),←hd];rfl
     have EA:=hide ea
     have EB:=hide eb
     clear ea eb
     by_cases hcd:c=d
     ·have ht:((c.toNat:Int) !=(d.toNat:Int))=false:=by simp[hcd]
      have HK:Hid (a.data.toList.take (k+1)=b.data.toList.take (k+1)):=hide (by
       have h1:=EA.out
       have h2:=EB.out
       rw[List.take_add_one,List.take_add_one,HT.out,h1,h2,hcd])
      clear hcd
      go_wp2
      go_quiet (fail)
      go_wp2
      go_roundw
      case rel=>exact⟨k+1,by omega,by omega,by go_num,HK,_,rfl⟩
      case measure=>simp[intOf];omega
     ·have ht:((c.toNat:Int) !=(d.toNat:Int))=true:=by
       have:c.toNat≠d.toNat:=fun h=>hcd (UInt8.toNat_inj.1 h)
       simp;omega
      have HK:Hid (Bm.com a.data.toList b.data.toList=k):=hide (Bm.abI _ _ k (by omega) (by omega) HT.out (.inr (.inr (by rw[EA.out,EB.out];simpa using hcd))))
      clear hcd
      go_wp2
      go_quiet (fail)
      go_wp2
      go_ret
      exact⟨jh (by rw[HK.out]),_,World.drewN_drewN _ _ _⟩
    ·have hB':¬(k:Int)<b.size:=by omega
     have HK:Hid (Bm.com a.data.toList b.data.toList=k):=hide (Bm.abI _ _ k (by omega) (by omega) HT.out (.inr (.inl (by omega))))
     have hkk:k=b.size:=by omega
     have h':¬a.size≤k:=by omega
     try (exfalso;omega)
     try (
      go_wp2
      go_ret
      exact⟨jh (by rw[HK.out];omega),m,rfl⟩)
   ·have hA':¬(k:Int)<a.size:=by omega
    have HK:Hid (Bm.com a.data.toList b.data.toList=k):=hide (Bm.abI _ _ k (by omega) (by omega) HT.out (.inl (by omega)))
    have hkk:k=a.size:=by omega
    have hB':b.size<a.size∨¬b.size<a.size:=by omega
    try (exfalso;omega)
    try (
     go_wp2
     go_ret
     exact⟨jh (by rw[HK.out];omega),m,rfl⟩)
theorem vL (a b:ByteArray)(w:World)(ha:a.size≤140737488355328)(hb:b.size≤140737488355328):
  Calls prog 305 #[.string a,.string b] w fun E w'=>E=.returned (.int .i64 (Bm.com a.data.toList b.data.toList))∧Bq w w':=
 (ae0 a b w ha hb).mono (by rintro E w' ⟨rfl,m,rfl⟩;exact⟨rfl,below_drewN (Below.refl _ _) m⟩)
set_option maxRecDepth 100000
def bH (e:TypeId) (w w':World):Prop:=∀(g:Nat) (cs:Array Value) (t:TypeId) (fr:Nat×Nat),w.heap[g]? =some (.cells cs t fr)→t≠e→w'.heap[g]? =some (.cells cs t fr)
theorem bH.refl (e:TypeId)(w:World):bH e w w:=fun _ _ _ _ h _=>h
theorem bH.trans {e:TypeId}{w w1 w2:World}(h:bH e w w1)(k:bH e w1 w2):bH e w w2:=fun g cs t fr hg ht=>k g cs t fr (h g cs t fr hg ht) ht
theorem bH.of_below {e:TypeId}{w w':World}(h:Bq w w'):bH e w w':=fun g cs t fr hg _=>(h.block g (ay hg)).trans hg
theorem Own.ajZ {k:IntKind}{e:TypeId}{base:Nat}{w:World}{v:Value}{zs:List Int}(h:Own k e base w v zs){g:Nat}(hg:v.ownBlock=some g):∃cs,w.heap[g]? =some (.cells cs e (0,0)):=by
 rcases h.2.2 with⟨rfl,_⟩|⟨g',cap,cur,rfl,_,hh,_⟩
 ·simp[Value.ownBlock]at hg
 ·simp[Value.ownBlock]at hg
  subst hg
  exact⟨_,hh⟩
theorem bH.aM {k:IntKind}{e:TypeId}{base:Nat}{w w':World}{v:Value}{zs:List Int}(h:Own k e base w v zs)(hg:w.grownBy w' v.ownBlock):bH e w w':=by
 intro g cs t fr hc ht
 refine(hg.block g (ay hc) fun e1=>?_).trans hc
 obtain⟨cs',h'⟩:=h.ajZ e1.symm
 rw[h']at hc
 simp at hc
 exact ht hc.2.1.symm
section
variable {P:Program} {w:World} {ops:Array Oper} {rest:List Oper} {o:Oper} {a:Act} {Q:Exit→Act→World→Prop}
theorem og (hgd:o.guard=none)(sl x:Operand)(t u:TypeId)
  (ho:o.op=.call {callee:=.builtin .append,args:=#[sl,x],argTypes:=#[t,u]})
  (e:TypeId) (base:Nat) (ht:P.underlying t=some (.slice e)) (hu:P.underlying u=some .string) (hinfo:(P.info? e).map (fun i=>(i.zero,i.size,i.bytes))=some (some (.int .u8 0),1,1))
  (v:Value) (zs:List Int) (hs:a.eval sl=v) (hown:Own .u8 e base w v zs) (s:ByteArray) (hx:a.eval x=.string s)
  (hlen:zs.length+s.size≤140737488355328) (hbase:base≤w.heap.size)
  (h:∀v' w',Own .u8 e base w' v' (zs++Om.ints s.data.toList)→Below base w w'→bH e w w'→wpList P ops Q rest (a.put o.dst v') w'):wpList P ops Q (o::rest) a w:=by
 obtain⟨i,hi,hz,hsize,hb⟩:=info_parts hinfo
 refine Lib.wpList_append_own_string w hgd sl x t u ho base e i ht hu hi hz hsize hb v zs.length _ hs hown.2 s hx (by unfold maxLen;omega) hlen hbase fun v' w' h1 h2 _=>?_
 refine h v' w' ⟨?_,?_⟩ ((Below.refl _ _).grown h2 hbase fun k' hk=>(hown.2.lt k' hk).1) (bH.aM hown h2)
 ·intro z hz
  rcases List.mem_append.1 hz with hz|hz
  ·exact hown.1 z hz
  ·unfold Om.ints at hz
   obtain⟨c,_,rfl⟩:=List.mem_map.1 hz
   have:=c.toNat_lt
   exact wf_u8 (by omega) (by omega)
 ·have e1:zs.length+s.size=(zs++Om.ints s.data.toList).length:=by rw[List.length_append,Om.iW,Lib.size_eq]
  rw[e1]at h1
  simpa[Lib.strCells_eq,Lib.byteCells,Om.ints,List.map_append,Function.comp_def]using h1
end
theorem anc (vb:Value)(bs:List Int)(w:World)(hb:Is .u8 w vb bs)(hl:bs.length≤140737488355328):
  Calls prog 270 #[vb] w fun e w'=>∃v,e=.returned v∧Own .u8 5 w.heap.size w' v bs∧Bq w w':=by
 have q:∀(w:World) (a:Option Addr) (n c n' c':Nat),(binOp .eql 61 (.slice a n c) (.slice none n' c')).run prog w=.ok (.bool a.isNone) w:=fun w a n c n' c'=>Lib.run_eql_slice_nil w _ _ a n c n' c' underlying61
 by_cases hn:vb=.slice none 0 0
 ·subst hn
  have:bs=[]:=by
   rcases hb.2 with⟨_,h⟩|⟨ad,cap,h,_⟩
   ·exact h
   ·simp at h
  subst this
  clear hb hl
  go_enter func270,ntmps270
  go_wp2
  go_ret
  exact⟨_,rfl,Own.nil _ _ _ _,Below.refl _ _⟩
 ·obtain⟨ad,cap,rfl⟩:∃ad cap,vb=.slice (some ad) bs.length cap:=by
   rcases hb.2 with⟨h,_⟩|⟨ad,cap,h,_⟩
   ·exact absurd h hn
   ·exact⟨ad,cap,h⟩
  clear hn
  obtain⟨w1,hw1,aV,aj,aX⟩:=kF .u8 5 w #[] 0 [] rfl rfl (by simp[maxLen]) (by simp)
  have hb1:=hb.below aj
  go_enter func270,ntmps270
  go_wp2_with (at_builtin;refine df rfl (.tmp 5) (.tmp 6) 61 rfl .u8 5 w.heap.size 1 underlying61 Tryz.info5 (by decide) _ [] rfl aX _ bs rfl hb1 (by simp;omega) (by omega) ?_)
  intro v2 w2 aW az _
  go_wp2
  go_ret
  exact⟨_,rfl,aW,aj.trans az⟩
theorem uJ (base:Nat)(v:Value)(zs:List Int)(x:Nat)(w:World)(hv:Own .u8 5 base w v zs)(hb:base≤w.heap.size)(hl:zs.length≤140737488355000)(hx:x<128):
  Calls prog 271 #[v,.int .i64 x] w fun E w'=>∃v',E=.returned v'∧Own .u8 5 base w' v' (zs++Vm.enc x)∧Below base w w'∧bH 5 w w':=by
 have hz1:(Vm.enc x).length=1:=Vm.iD hx
 go_enter func271,ntmps271
 go_wp2_with fail
 refine(gL _ [] x _ (Is.nil _ _) (by simp) (by omega) (by omega)).mono ?_
 rintro E w1 ⟨v1,rfl,aX,aj⟩
 rw[Int.toNat_natCast,List.nil_append]at aX
 have hb1:=aj.size
 have hv1:=hv.below aj
 have is1:=aX.is
 go_wp2_with (at_builtin;refine df rfl (.tmp 5) (.tmp 8) 61 rfl .u8 5 base 1 underlying61 Tryz.info5 (by decide) _ zs rfl hv1 _ (Vm.enc x) rfl is1 (by omega) (by omega) ?_)
 intro v2 w2 aW az iU
 go_wp2
 go_ret
 exact⟨_,rfl,aW,(aj.mono hb).trans az,(bH.of_below aj).trans (bH.aM hv1 iU)⟩
theorem ad2 (k:ByteArray)(n:Nat):List.take (k.size-n) (List.drop n k.data.toList)=List.drop n k.data.toList:=by
 rw[List.take_of_length_le]
 rw[List.length_drop,←Lib.size_eq]
 exact Nat.le_refl _
theorem af2 (base:Nat)(v:Value)(zs:List Int)(k:ByteArray)(n:Nat)(w:World)(hv:Own .u8 5 base w v zs)(hb:base≤w.heap.size)(hl:zs.length≤140737488354000)(hk:k.size≤64)(hn:n≤k.size):
  Calls prog 306 #[v,.string k,.int .i64 n] w fun E w'=>∃v',E=.returned v'∧Own .u8 5 base w' v' (zs++(Vm.enc n++(Vm.enc (k.size-n)++Om.ints (k.data.toList.drop n))))∧Below base w w'∧bH 5 w w':=by
 have hz1:(Vm.enc n).length=1:=Vm.iD (by omega)
 have hz2:(Vm.enc (k.size-n)).length=1:=Vm.iD (by omega)
 have hsub:(k.size:Int)-n=((k.size-n:Nat):Int):=by omega
 have hdt:=ad2 k n
 go_enter func306,ntmps306
 go_wp2_with fail
 refine(uJ base v zs n _ hv hb (by omega) (by omega)).mono ?_
 rintro E w1 ⟨v1,rfl,aX,aj,kp1⟩
 have hb1:=aj.size
 go_wp2_with fail
 refine(uJ base v1 _ (k.size-n) _ aX (by omega) (by simp;omega) (by omega)).mono ?_
 rintro E w2 ⟨v2,rfl,aW,az,kp2⟩
 have hb2:=az.size
 have hl2:(zs++Vm.enc n++Vm.enc (k.size-n)).length≤140737488354100:=by rw[List.length_append,List.length_append];omega
 go_wp2_with (at_builtin;refine og rfl (.tmp 16) (.tmp 19) 61 9 rfl 5 base underlying61 underlying9 Tryz.info5 _ _ rfl aW _ rfl ?q1 (by omega) ?_)
 case q1=>simp;simp at hl2;omega
 intro v3 w3 bK aC kp3
 go_wp2
 go_ret
 exact⟨_,rfl,bK,(aj.trans az).trans aC,(kp1.trans kp2).trans kp3⟩
theorem Tryz.ac4:∀args w,(callFunc 306 args).run prog w=.ok (.enter 306 args) w:=enters_of func306 (by kernel_rfl) rfl
theorem wW {P:Program}{ops:Array Oper}{o:Oper}{a:Act}{w:World}{K:Act→World→Prop}{Q:Exit→Act→World→Prop}{E:Prop}(hgd:o.guard=none)(f:FuncId)(args:Array Operand)(ts:Array TypeId)
  (ho:o.op=.call {callee:=.value (.func f),args:=args,argTypes:=ts}) (hent:∀args w,(callFunc f args).run P w=.ok (.enter f args) w) (vs:Array Value) (hvs:args.map a.eval=vs)
  {R:Value→World→Prop} (hc:Calls P f vs w fun e w'=>∃v,e=.returned v∧R v w') (h:∀v w',R v w'→K (a.put o.dst v) w'):
  if Region.wanted o (yielded ops a.tmps)=true then Oper.wp P o a w K Q else E:=by
 have hw:Region.wanted o (yielded ops a.tmps)=true:=by simp[Region.wanted,hgd]
 rw[if_pos hw]
 unfold Oper.wp
 simp only[execOp,ho,resolve,invoke,Sem.run_bind,hvs]
 simp only[Act.eval,Deferred.ofValue,Sem.run_pure,Result.andThen_ok,Array.empty_append,hent]
 rw[Oper.upon_enter]
 refine hc.mono ?_
 rintro e w' ⟨v,rfl,hr⟩
 exact h v w' hr
theorem ap6 {ah:List UInt8}{k u:ByteArray}{n:Nat}(hn:Bm.com ah k.data.toList=n):Bm.fQ ah ⟨false,k,u⟩=[0]++(Vm.enc n++(Vm.enc (k.size-n)++Om.ints (k.data.toList.drop n))):=by
 unfold Bm.fQ Bm.mI Bm.Ov.bit Bm.Ov.kl
 simp only[hn,List.length_drop,←Lib.size_eq]
 rw[if_neg (by simp),if_neg (by simp),Vm.l8 (by omega)]
 simp
theorem ao6 {ah:List UInt8}{k u:ByteArray}{n:Nat}(hn:Bm.com ah k.data.toList=n):Bm.fQ ah ⟨true,k,u⟩=[1]++(Vm.enc n++(Vm.enc (k.size-n)++Om.ints (k.data.toList.drop n)))++Vm.enc u.size++Om.ints u.data.toList:=by
 unfold Bm.fQ Bm.mI Bm.Ov.bit Bm.Ov.kl Bm.Ov.vl Om.cnt
 simp only[hn,List.length_drop,←Lib.size_eq]
 rw[if_pos trivial,if_pos trivial,Vm.l8 (by omega)]
 simp
theorem aop (base:Nat)(v:Value)(zs:List Int)(o:Bm.Ov)(ah:ByteArray)(w:World)(hv:Own .u8 5 base w v zs)(hb:base≤w.heap.size)(hl:zs.length≤140737488353000)(hah:ah.size≤64)(hc:o.c=0):
  Calls prog 272 #[v,xP o.p o.k o.v,.string ah] w fun E w'=>∃v',E=.returned v'∧Own .u8 5 base w' v' (zs++Bm.fQ ah.data.toList o)∧Below base w w'∧bH 5 w w':=by
 obtain⟨p,k,u⟩:=o
 have hh:=Om.gU hc
 have hcl:=Bm.wQ ah.data.toList k.data.toList
 simp only[Bm.Ov.kl,Bm.Ov.vl,←Lib.size_eq]at hh hcl
 clear hc
 unfold xP
 simp only
 obtain⟨n,hn⟩:∃n,Bm.com ah.data.toList k.data.toList=n:=⟨_,rfl⟩
 rw[hn]at hcl
 have hnk:=hcl.2.1
 have hk16:=hh.2.1
 have hu32:=hh.2.2.1
 have hz1:(Vm.enc n).length=1:=Vm.iD (by omega)
 have hz2:(Vm.enc (k.size-n)).length=1:=Vm.iD (by omega)
 have hz3:(Vm.enc u.size).length=1:=Vm.iD (by omega)
 have hz4:(Om.ints (k.data.toList.drop n)).length≤16:=by rw[Om.iW,List.length_drop,←Lib.size_eq];omega
 obtain⟨w0,hw0,rP,dh,aga⟩:=au w #[.bool p,.string k,.string u] 71
 have c0:=ai aga 0 rfl
 have c1:=ai aga 1 rfl
 have c2:=ai aga 2 rfl
 have HN:=hide hn
 have HB:=hide aga
 clear hn hh aga hcl
 cases p
 ·rw[ap6 HN.out]
  go_enter func272,ntmps272
  go_wp2_with fail
  refine(vL ah k _ (by omega) (by omega)).mono ?_
  rintro E w1 ⟨rfl,aj⟩
  rw[HN.out]
  have aV:=aj.size
  have d0:=(aj.cell (p:=⟨w.heap.size,0,none⟩) (by simp[rP])).trans c0
  have d1:=(aj.cell (p:=⟨w.heap.size,1,none⟩) (by simp[rP])).trans c1
  have B1:=hide ((aj.block w.heap.size (by omega)).trans HB.out)
  have uN:Bq w w1:=dh.trans (aj.mono dh.size)
  have hv1:=hv.below uN
  clear c0 c1 c2 HB dh aj hw0
  obtain⟨w2,hw2,dA,az,aW⟩:=kF .u8 5 w1 #[.int .u8 0] 1 [0] rfl rfl (by simp[maxLen]) (by simp[wf_u8])
  have e0:=(az.cell (p:=⟨w.heap.size,0,none⟩) (by simp;omega)).trans d0
  have e1:=(az.cell (p:=⟨w.heap.size,1,none⟩) (by simp;omega)).trans d1
  have B2:=hide ((az.block w.heap.size (by omega)).trans B1.out)
  have i1:=fun m=>(hv1.below az).drewN m
  have i2:=fun m=>aW.is.drewN m
  have HZ:=hide hl
  go_wp2_with fail
  go_region_law (first
   |(refine tV rfl (.tmp 15) (.tmp 16) 61 rfl .u8 5 base 1 underlying61 Tryz.info5 (by decide) _ zs (by simp[Act.eval]) (i1 1) _ [0] (by simp[Act.eval]) (i2 1) (by simp;omega) (by simp;omega) ?_;intro v3 w3 bK aC zU;have B3:=bH.aM (i1 1) zU _ _ _ _ B2.out (by decide);have f0:=ai B3 0 rfl;have f1:=ai B3 1 rfl;have f2:=ai B3 2 rfl;replace B3:=hide B3)
   |(refine wW rfl 306 #[.tmp 17,.tmp 19,.tmp 20] #[61,9,3] rfl Tryz.ac4 #[v3,.string k,.int .i64 n] (by simp[Act.eval]) ((af2 base v3 _ k n _ bK (by have:=aC.size;simp at this;omega) (by simp;omega) (by omega) hnk).mono (by rintro E w' ⟨v',rfl,h⟩;exact⟨v',rfl,h⟩)) ?_;rintro v4 w4 ⟨bz,aL,kp4⟩))
  all_goals
   have aS:Below base w w4:=(((uN.mono hb).trans (az.mono (by omega))).trans ((Below.refl _ _).drew.trans aC)).trans aL
   have kp5:bH 5 w w4:=((((bH.of_below uN).trans (bH.of_below az)).trans (bH.of_below (below_drewN (Below.refl w2.heap.size w2) 1))).trans (bH.aM (i1 1) zU)).trans kp4
   have dx:Own .u8 5 base w4 v4 (zs++0::(Vm.enc n++(Vm.enc (k.size-n)++Om.ints (List.drop n k.data.toList)))):=by simpa using bz
   clear i1 i2 bz bK zU aC aL kp4 f0 f1 f2 e0 e1 d0 d1 B1 B2 B3
   go_wp2
   go_ret
   exact⟨_,rfl,dx,aS,kp5⟩
 ·rw[ao6 HN.out]
  go_enter func272,ntmps272
  go_wp2_with fail
  refine(vL ah k _ (by omega) (by omega)).mono ?_
  rintro E w1 ⟨rfl,aj⟩
  rw[HN.out]
  have aV:=aj.size
  have d0:=(aj.cell (p:=⟨w.heap.size,0,none⟩) (by simp[rP])).trans c0
  have d1:=(aj.cell (p:=⟨w.heap.size,1,none⟩) (by simp[rP])).trans c1
  have B1:=hide ((aj.block w.heap.size (by omega)).trans HB.out)
  have uN:Bq w w1:=dh.trans (aj.mono dh.size)
  have hv1:=hv.below uN
  clear c0 c1 c2 HB dh aj hw0
  obtain⟨w2,hw2,dA,az,aW⟩:=kF .u8 5 w1 #[.int .u8 1] 1 [1] rfl rfl (by simp[maxLen]) (by simp[wf_u8])
  have e0:=(az.cell (p:=⟨w.heap.size,0,none⟩) (by simp;omega)).trans d0
  have e1:=(az.cell (p:=⟨w.heap.size,1,none⟩) (by simp;omega)).trans d1
  have B2:=hide ((az.block w.heap.size (by omega)).trans B1.out)
  have i1:=fun m=>(hv1.below az).drewN m
  have i2:=fun m=>aW.is.drewN m
  have HZ:=hide hl
  go_wp2_with fail
  go_region_law (first
   |(refine tV rfl (.tmp 22) (.tmp 23) 61 rfl .u8 5 base 1 underlying61 Tryz.info5 (by decide) _ zs (by simp[Act.eval]) (i1 1) _ [1] (by simp[Act.eval]) (i2 1) (by simp;omega) (by simp;omega) ?_;intro v3 w3 bK aC zU;have B3:=bH.aM (i1 1) zU _ _ _ _ B2.out (by decide);have f0:=ai B3 0 rfl;have f1:=ai B3 1 rfl;have f2:=ai B3 2 rfl;replace B3:=hide B3)
   |(refine wW rfl 306 #[.tmp 24,.tmp 26,.tmp 27] #[61,9,3] rfl Tryz.ac4 #[v3,.string k,.int .i64 n] (by simp[Act.eval]) ((af2 base v3 _ k n _ bK (by have:=aC.size;simp at this;omega) (by simp;omega) (by omega) hnk).mono (by rintro E w' ⟨v',rfl,h⟩;exact⟨v',rfl,h⟩)) ?_;rintro v4 w4 ⟨bz,aL,kp4⟩))
  all_goals
   have aS:Below base w w4:=(((uN.mono hb).trans (az.mono (by omega))).trans ((Below.refl _ _).drew.trans aC)).trans aL
   have kp5:bH 5 w w4:=((((bH.of_below uN).trans (bH.of_below az)).trans (bH.of_below (below_drewN (Below.refl w2.heap.size w2) 1))).trans (bH.aM (i1 1) zU)).trans kp4
   have B4:=kp4 _ _ _ _ B3.out (by decide)
   have g2:=ai B4 2 rfl
   have iK:=aS.size
   replace B4:=hide B4
   have hl5:(zs++[1]++(Vm.enc n++(Vm.enc (k.size-n)++Om.ints (List.drop n k.data.toList)))).length≤140737488353100:=by simp only[List.length_append,List.length_cons,List.length_nil];omega
   generalize zT:zs++[1]++(Vm.enc n++(Vm.enc (k.size-n)++Om.ints (List.drop n k.data.toList)))=z5 at*
   have HZ5:=hide zT
   clear zT i1 i2 bK zU aC aL kp4 f0 f1 f2 e0 e1 d0 d1 B1 B2 B3
   go_wp2_with fail
   refine(uJ base v4 z5 u.size _ bz (by omega) (by omega) (by omega)).mono ?_
   rintro E w6 ⟨v6,rfl,eu,eH,kp6⟩
   have sP:=eH.size
   have g3:=ai (kp6 _ _ _ _ B4.out (by decide)) 2 rfl
   go_wp2_with (at_builtin;refine og rfl (.tmp 34) (.tmp 36) 61 9 rfl 5 base underlying61 underlying9 Tryz.info5 _ _ rfl eu u rfl ?q1 (by omega) ?_)
   case q1=>simp only[List.length_append];omega
   intro v7 w7 jI iE kp7
   have vJ:Own .u8 5 base w7 v7 (zs++([1]++(Vm.enc n++(Vm.enc (k.size-n)++Om.ints (List.drop n k.data.toList)))++Vm.enc u.size++Om.ints u.data.toList)):=by
    rw[←HZ5.out]at jI
    simpa using jI
   clear jI eu bz
   go_wp2
   go_ret
   exact⟨_,rfl,by simpa using vJ,(aS.trans eH).trans iE,(kp5.trans kp6).trans kp7⟩
theorem agh {l:List Bm.Ov}{k:Nat}{o:Bm.Ov}(ho:l[k]? =some o):l.take (k+1)=l.take k++[o]:=by
 obtain⟨hk,rfl⟩:=List.getElem?_eq_some_iff.1 ho
 exact List.take_succ_eq_append_getElem hk
theorem ams {l:List Bm.Ov}{k:Nat}{o:Bm.Ov}(ho:l[k]? =some o):Bm.fq [] (l.take (k+1))=Bm.fq [] (l.take k)++Bm.fQ (Bm.aY [] (l.take k)) o:=by
 rw[agh ho,Bm.rR]
theorem aj2 {l:List Bm.Ov}(hc:Bm.cO l=0)(k:Nat):(Bm.fq [] (l.take k)).length≤420:=by
 obtain⟨h1,h2,h3⟩:=Bm.dM hc
 have h4:∀o∈l.take k,Bm.Ov.c o=0:=fun o ho=>h3 o (List.mem_of_mem_take ho)
 have:=Bm.aco [] (l.take k) h4
 have:=Bm.agM h4
 have:(l.take k).length≤8:=by rw[List.length_take];omega
 omega
theorem aqk (vb:Value)(bs:List Int)(vl:Value)(l:List Bm.Ov)(w:World)(hb:Is .u8 w vb bs)(hl:bs.length≤140737488351700)(h:bM w vl l)(hf:dZ l)(hll:l.length≤140737488355328):
  Calls prog 208 #[vb,vl] w fun E w'=>∃v',E=.returned (.tuple #[v',.int .i64 (Bm.cO l)])∧Own .u8 5 w.heap.size w' v' (Bm.afj bs l)∧Bq w w':=by
 by_cases hc:Bm.cO l=0
 ·rw[hc,Bm.aiv hc]
  obtain⟨h1,h8,h3⟩:=Bm.dM hc
  obtain⟨b1,o1,c1,rfl,_,_,hB,hcell⟩:=h.full (by omega)
  have HC:=hide hc
  have HL:=hide hcell
  have H3:=hide h3
  have HE:=hide (aj2 hc)
  have hz1:(Vm.enc l.length).length=1:=Vm.iD (by omega)
  have hlen:(l.length:Int)≤8:=by omega
  clear hc hcell h3
  go_enter func208,ntmps208
  go_wp2_with fail
  refine(kN _ l _ h hf hll).mono ?_
  rintro E w1 ⟨rfl,aj⟩
  rw[HC.out]
  have aV:=aj.size
  have hb1:=hb.below aj
  go_wp2_with fail
  refine(anc _ bs _ hb1 (by omega)).mono ?_
  rintro E w2 ⟨v2,rfl,aW,az⟩
  have dA:=az.size
  replace aW:=aW.bn aV
  go_wp2_with fail
  refine(uJ w.heap.size v2 bs l.length _ aW (by omega) (by omega) (by omega)).mono ?_
  rintro E w3 ⟨v3,rfl,bK,aC,_⟩
  have bO:=aC.size
  have bq:Bq w w3:=(aj.trans (az.mono aV)).trans aC
  clear aW aj az aC hb1
  go_wp2
  go_loopw [7,8,24] (fun ov av i wr=>∃(k:Nat) (ah:ByteArray),k≤l.length∧i=.int .i64 k∧av=.string ah∧Hid (ah.data.toList=Bm.aY [] (l.take k))∧ah.size≤64∧Own .u8 5 w.heap.size wr ov (bs++Vm.enc l.length++Bm.fq [] (l.take k))∧Bq w wr) (fun _ _ i _=>l.length-(intOf i).toNat)
  case atStart=>exact⟨0,⟨#[]⟩,by omega,rfl,rfl,hide rfl,by simp[ByteArray.size],by simpa[Bm.fq]using bK,bq⟩
  case round=>
   obtain⟨k,ah,hk,rfl,rfl,HA,hah,own,aI⟩:=hrel
   have sz:=aI.size
   by_cases hlt:k<l.length
   ·obtain⟨o,ho⟩:∃o,l[k]? =some o:=⟨l[k],by rw[List.getElem?_eq_getElem]⟩
    obtain⟨c0,c1,c2⟩:=HL.out k o ho
    have d0:=(aI.cell (p:=⟨b1,o1+k*3,none⟩) hB).trans c0
    have d1:=(aI.cell (p:=⟨b1,o1+k*3+1,none⟩) hB).trans c1
    have d2:=(aI.cell (p:=⟨b1,o1+k*3+2,none⟩) hB).trans c2
    have HO:=hide ho
    have hoc:=H3.out o (List.mem_of_getElem? ho)
    have oJ:o.k.size≤64:=by have:=(Om.gU hoc).2.1;simp only[Bm.Ov.kl,←Lib.size_eq]at this;omega
    have hel:=HE.out k
    have e5:bs++Vm.enc l.length++Bm.fq [] (l.take k)++Bm.fQ ah.data.toList o=bs++Vm.enc l.length++Bm.fq [] (l.take (k+1)):=by rw[ams ho,HA.out,←List.append_assoc]
    have HA2:Hid (o.k.data.toList=Bm.aY [] (l.take (k+1))):=hide (by rw[agh ho,Bm.aaB];rfl)
    have hlz:(bs++Vm.enc l.length++Bm.fq [] (l.take k)).length≤140737488353000:=by simp only[List.length_append];omega
    generalize bs++Vm.enc l.length++Bm.fq [] (l.take k)=zs at*
    have E5:=hide e5
    clear c0 c1 c2 ho e5
    have hlt':(k:Int)<l.length:=by omega
    obtain⟨w4,hw4,iK,aL,ae6⟩:=au wr #[.bool o.p,.string o.k,.string o.v] 71
    have f0:=ai ae6 0 rfl
    have f1:=ai ae6 1 rfl
    have f2:=ai ae6 2 rfl
    have B4:=hide ae6
    clear ae6
    go_wp2_with fail
    refine(aop w.heap.size _ zs o ah _ (own.below aL) (by omega) (by omega) hah hoc).mono ?_
    rintro E w5 ⟨v5,rfl,dx,aS,kp5⟩
    rw[E5.out]at dx
    have B5:=kp5 _ _ _ _ B4.out (by decide)
    have g1:=ai B5 1 rfl
    have eH:Bq w w5:=(aI.trans (aL.mono sz)).trans aS
    clear own aL aS kp5 B5 d0 d1 d2 f0 f1 f2 hel hlz
    go_wp2
    go_roundw
    case rel=>exact⟨k+1,o.k,by omega,by go_num,rfl,HA2,oJ,dx,eH⟩
    case measure=>simp[intOf];omega
   ·have hlt':¬(k:Int)<l.length:=by omega
    rw[List.take_of_length_le (by omega),List.append_assoc]at own
    go_wp2
    go_ret2
    exact⟨_,rfl,own,aI⟩
 ·rw[Bm.auG hc]
  obtain⟨c,hcc⟩:∃c,Bm.cO l=c:=⟨_,rfl⟩
  have h0:(c !=0)=true:=by rw[←hcc];simpa using hc
  obtain⟨ao,cp,rfl,_,_⟩:=hb.shape
  rw[hcc]
  have HC:=hide hcc
  clear hc hcc
  go_enter func208,ntmps208
  go_wp2_with fail
  refine(kN _ l _ h hf hll).mono ?_
  rintro E w1 ⟨rfl,aj⟩
  rw[HC.out]
  go_wp2
  go_ret2
  exact⟨_,rfl,Own.nil _ _ _ _,aj⟩
theorem aT.nD {e base g:Nat}{w w':World}{v:Value}{l:List Bm.Ov}(h:aT e base w v l)(hg:w.grownBy w' (some g))(hb:g<base):aT e base w' v l:=by
 refine h.kept hg ?_
 cases hv:v.ownBlock with
 |none=>exact .inl rfl
 |some b=>
  refine .inr fun e=>?_
  have:=h.block b hv
  simp at e
  omega
structure Cw where
 e:Int
 n:Int
 v:Value
 l:List Bm.Ov
def Cw.c (c:Cw):Cm.Cv:=⟨c.e,c.n,c.l⟩
def aD (r:List Cw):List Cm.Cv:=r.map Cw.c
def cK (e n:Int) (v:Value):Value:=.agg #[.int .i64 e,.int .i64 n,v]
def iF (c:Cw):List Value:=[.int .i64 c.e,.int .i64 c.n,c.v]
def ccells:List Cw→List Value
 |[]=>[]
 |c::r=>iF c++ccells r
theorem mh:∀(l:List Cw),(ccells l).length=l.length*3
 |[]=>rfl
 |o::r=>by
  have:=mh r
  simp only[ccells,iF,List.length_append,List.length_cons,List.length_nil]
  omega
theorem pE:∀(l m:List Cw),ccells (l++m)=ccells l++ccells m
 |[],_=>rfl
 |o::l,m=>by simp only[List.cons_append,ccells,pE l m,List.append_assoc]
theorem kZ:∀(l:List Cw),(∀c∈l,c.v.oneCell'=true)→∀u∈ccells l,u.oneCell'=true
 |[],_,u,h=>by simp[ccells]at h
 |o::r,hv,u,h=>by
  rcases List.mem_append.1 h with h|h
  ·simp only[iF,List.mem_cons,List.not_mem_nil,or_false]at h
   rcases h with rfl|rfl|rfl
   ·rfl
   ·rfl
   ·exact hv o (List.mem_cons_self ..)
  ·exact kZ r (fun c hc=>hv c (List.mem_cons_of_mem _ hc)) u h
theorem rY:∀(l:List Cw) (i:Nat) (hi:i<l.length),(ccells l)[i*3]? =some (.int .i64 l[i].e)∧(ccells l)[i*3+1]? =some (.int .i64 l[i].n)∧(ccells l)[i*3+2]? =some l[i].v
 |[],_,hi=>by simp at hi
 |o::r,0,hi=>by simp[ccells,iF]
 |o::r,i+1,hi=>by
  have:=rY r i (by simpa using hi)
  simp only[ccells,iF]
  rw[show(i+1)*3=i*3+3 by omega]
  simpa[List.getElem?_append]using this
theorem sD:∀(l:List Cw) (p:Nat),ccells (l.take p)=(ccells l).take (p*3)
 |[],p=>by simp[ccells]
 |o::l,0=>by simp[ccells]
 |o::l,p+1=>by
  rw[List.take_succ_cons,show(p+1)*3=p*3+3 by omega]
  simp[ccells,iF,sD l p]
theorem zK:∀(l:List Cw) (p:Nat),ccells (l.drop p)=(ccells l).drop (p*3)
 |[],p=>by simp[ccells]
 |o::l,0=>by simp[ccells]
 |o::l,p+1=>by
  rw[List.drop_succ_cons,show(p+1)*3=p*3+3 by omega]
  simp[ccells,iF,zK l p]
theorem bM.one {w:World}{v:Value}{l:List Bm.Ov}(h:bM w v l):v.oneCell'=true:=by
 obtain⟨ao,cap,rfl,_⟩:=h.shape
 rfl
def In64 (x:Int):Prop:=-9223372036854775808≤x∧x<9223372036854775808
def InC (w:World) (r:List Cw):Prop:=∀c∈r,bM w c.v c.l∧In64 c.e∧In64 c.n
def jH (r:List Cw):Prop:=∀c∈r,dZ c.l∧c.l.length*40≤140737488351232
theorem InC.below {w w':World}{r:List Cw}(h:InC w r)(hb:Bq w w'):InC w' r:=fun c hc=>⟨(h c hc).1.below hb,(h c hc).2⟩
def eD (w:World) (v:Value) (r:List Cw):Prop:=
 (v=.slice none 0 0∧r=[])∨∃ad cap,v=.slice (some ad) r.length cap∧r.length≤cap∧cap≤maxLen∧∀j u,(ccells r)[j]? =some u→w.cell? (ad.add j)=some u
def gD (w:World) (v:Value) (r:List Cw):Prop:=eD w v r∧InC w r
def bD (e:TypeId) (base:Nat) (w:World) (v:Value) (r:List Cw):Prop:=w.ownsRow base e 3 v r.length (ccells r)
theorem eD.nil (w:World):eD w (.slice none 0 0) []:=.inl ⟨rfl,rfl⟩
theorem gD.nil (w:World):gD w (.slice none 0 0) []:=⟨eD.nil w,fun c hc=>by simp at hc⟩
theorem bD.nil (e:TypeId)(base:Nat)(w:World):bD e base w (.slice none 0 0) []:=World.ownsRow_nil _ _ _ _
theorem eD.below {w w':World}{v:Value}{l:List Cw}(h:eD w v l)(hb:Bq w w'):eD w' v l:=by
 rcases h with h|⟨ad,cap,hv,h1,h2,hc⟩
 ·exact .inl h
 ·refine .inr ⟨ad,cap,hv,h1,h2,fun j u hj=>?_⟩
  have:=hc j u hj
  rw[hb.cell (World.block_lt_of_cell? _ _ this)]
  exact this
theorem gD.below {w w':World}{v:Value}{l:List Cw}(h:gD w v l)(hb:Bq w w'):gD w' v l:=⟨h.1.below hb,h.2.below hb⟩
theorem eD.shape {w:World}{v:Value}{l:List Cw}(h:eD w v l):∃ao cap,v=.slice ao l.length cap∧l.length≤cap∧cap≤maxLen:=by
 rcases h with⟨hv,e⟩|⟨ad,cap,hv,h1,h2,_⟩
 ·subst e;exact⟨none,0,hv,by simp,by simp⟩
 ·exact⟨some ad,cap,hv,h1,h2⟩
theorem eD.full {w:World}{v:Value}{l:List Cw}(h:eD w v l)(hne:0<l.length):
  ∃b off cap,v=.slice (some ⟨b,off,none⟩) l.length cap∧l.length≤cap∧cap≤maxLen∧b<w.heap.size∧
   ∀i c,l[i]? =some c→w.cell? ⟨b,off+i*3,none⟩=some (.int .i64 c.e)∧w.cell? ⟨b,off+i*3+1,none⟩=some (.int .i64 c.n)∧w.cell? ⟨b,off+i*3+2,none⟩=some c.v:=by
 rcases h with⟨_,h⟩|⟨⟨b,off,spot⟩,cap,hv,h1,h2,hc⟩
 ·subst h;simp at hne
 ·have h0:=hc 0 _ (rY l 0 hne).1
  have hspot:spot=none:=by simpa[Addr.add]using World.cell?_spot h0
  subst hspot
  refine⟨b,off,cap,hv,h1,h2,World.block_lt_of_cell? _ _ h0,fun i o jP=>?_⟩
  obtain⟨hi,rfl⟩:=List.getElem?_eq_some_iff.1 jP
  obtain⟨g1,g2,g3⟩:=rY l i hi
  have k1:=hc _ _ g1
  have k2:=hc _ _ g2
  have k3:=hc _ _ g3
  rw[gG]at k1 k2 k3
  exact⟨k1,by rw[Nat.add_assoc];exact k2,by rw[Nat.add_assoc];exact k3⟩
theorem bD.row {e base:Nat}{w:World}{v:Value}{l:List Cw}(h:bD e base w v l):eD w v l:=by
 rcases h.2 with⟨hv,hn⟩|⟨g,cap,cur,hv,h1,hh,hc,hm,hs,ht⟩
 ·exact .inl ⟨hv,List.eq_nil_of_length_eq_zero hn⟩
 ·refine .inr ⟨⟨g,0,none⟩,cap,hv,hc,hm,fun j u hj=>?_⟩
  exact h.cells (by rw[hv];rfl) j u hj
theorem ak4 {e base size n:Nat}{w w':World}{v:Value}{xs:List Value}(h:w.ownsRow base e size v n xs)(hb:Bq w w'):w'.ownsRow base e size v n xs:=by
 refine⟨h.1,?_⟩
 rcases h.2 with h|⟨g,cap,cur,hv,h1,hh,r⟩
 ·exact .inl h
 ·refine .inr ⟨g,cap,cur,hv,h1,?_,r⟩
  rw[hb.block g (Array.getElem?_eq_some_iff.1 hh).1]
  exact hh
theorem bD.below {e base:Nat}{w w':World}{v:Value}{l:List Cw}(h:bD e base w v l)(hb:Bq w w'):bD e base w' v l:=ak4 h hb
theorem kE (e:TypeId)(w:World)(cs:Array Value)(n:Nat)(l:List Cw)(hn:l.length=n)(h:cs.toList=ccells l)(hm:n≤maxLen):
  ∃W,w.alloc (.cells cs e)=W∧W.heap.size=w.heap.size+1∧Bq w W∧bD e w.heap.size W (.slice (some ⟨w.heap.size,0,none⟩) n n) l:=by
 subst hn
 refine⟨_,rfl,by simp,(Below.refl _ _).alloc (Nat.le_refl _) _,?_⟩
 have ho:=World.ownsRow_lit (base:=w.heap.size) (e:=e) (size:=3) w cs l.length (Nat.le_refl _) hm (by have:=congrArg List.length h;rw[mh]at this;simpa using this)
 rw[h]at ho
 exact ho
theorem bH.sN {e base size n:Nat}{w w':World}{v:Value}{xs:List Value}(h:w.ownsRow base e size v n xs)(hg:w.grownBy w' v.ownBlock):bH e w w':=by
 intro g cs t fr hc ht
 refine(hg.block g (ay hc) fun e1=>?_).trans hc
 rcases h.2 with⟨rfl,_⟩|⟨g',cap,cur,rfl,_,hh,_⟩
 ·simp[Value.ownBlock]at e1
 ·simp[Value.ownBlock]at e1
  subst e1
  rw[hh]at hc
  simp at hc
  exact ht hc.2.1.symm
theorem aT.lu {e e' base:Nat}{w w':World}{v:Value}{l:List Bm.Ov}(h:aT e base w v l)(k:bH e' w w')(hne:e≠e'):aT e base w' v l:=by
 refine⟨h.1,?_⟩
 rcases h.2 with h|⟨g,cap,cur,hv,h1,hh,r⟩
 ·exact .inl h
 ·exact .inr ⟨g,cap,cur,hv,h1,k _ _ _ _ hh hne,r⟩
section
variable {P:Program} {w:World} {ops:Array Oper} {rest:List Oper} {o:Oper} {a:Act} {Q:Exit→Act→World→Prop}
theorem nT (hgd:o.guard=none)(s x:Operand)(t:TypeId)
  (ho:o.op=.call {callee:=.builtin .append,args:=#[s,x],argTypes:=#[t,t]})
  (e:TypeId) (base:Nat) (ht:P.underlying t=some (.slice e)) (hinfo:(P.info? e).map (fun i=>(i.zero,i.size,i.bytes))=some (some (.agg #[.int .i64 0,.int .i64 0,.slice none 0 0]),3,40))
  (v:Value) (l:List Cw) (hs:a.eval s=v) (hown:bD e base w v l) (vx:Value) (m:List Cw) (hx:a.eval x=vx) (his:eD w vx m) (hone:∀c∈m,c.v.oneCell'=true)
  (hlen:(l.length+m.length)*40≤140737488355328) (hbase:base≤w.heap.size)
  (h:∀v' w',bD e base w' v' (l++m)→Below base w w'→bH e w w'→wpList P ops Q rest (a.put o.dst v') w'):wpList P ops Q (o::rest) a w:=by
 obtain⟨i,hi,hz,hsize,hb⟩:=info_parts hinfo
 have hn:l.length+m.length≤140737488355328:=by omega
 rcases his with⟨hv,hy⟩|⟨ad,cap,hv,h1,h2,hc⟩
 ·subst hy
  refine wpList_append_own_none hgd s x t ho base e i 3 ht hi v l.length _ hs hown (hx.trans hv) (h v w (by simpa using hown) (Below.refl _ _) (bH.refl _ _))
 ·refine wpList_append_own w hgd s x t ho base e i _ 3 40 ht hi hz hsize hb rfl (by decide) v l.length _ hs hown ad m.length cap (ccells m) (hx.trans hv) (mh m) hc (kZ m hone) (by unfold maxLen;omega) hlen hbase ?_
  intro v' w' ho' hg _
  refine h v' w' (by unfold bD;rw[pE,List.length_append];exact ho') ((Below.refl _ _).grown hg hbase fun k' hk=>?_) (bH.sN hown hg)
  exact(World.ownsRow.lt hown k' hk).1
variable {v:Value}
theorem eD.kJ {l:List Cw}(h:eD w v l){t:TypeId}(ht:P.underlying t=some (.slice (P.elem t)))(hs:∀wx,(sizeOf (P.elem t)).run P wx=.ok 3 wx)(p:Nat)(hp:p≤l.length):
  ∃vs,(∀wx,(Instr.slice t v none (some (.int .i64 p)) none).run P wx=.ok vs wx)∧eD w vs (l.take p):=by
 obtain⟨ao,cap,rfl,hcap,hm⟩:=h.shape
 refine⟨.slice ao p cap,fun wx=>?_,?_⟩
 ·rw[run_slice_h wx t ao l.length cap ht .i64 _ (by omega) (by omega),hs]
  simp only[Result.andThen,sliced]
  cases ao<;>simp[Addr.add]
 ·cases ao with
  |none=>
   rcases h with⟨hv,e⟩|⟨ad,cap',hv,_⟩
   ·subst e
    simp at hp hv
    subst hp hv
    exact eD.nil _
   ·simp at hv
  |some ad=>
   have hl:(l.take p).length=p:=by rw[List.length_take];omega
   rcases h with⟨hv,_⟩|⟨ad',cap',hv,h1,h2,hc⟩
   ·simp at hv
   ·simp at hv
    obtain⟨rfl,rfl⟩:=hv
    refine .inr ⟨ad,cap,by rw[hl],by omega,h2,fun j u hj=>hc j u ?_⟩
    rw[sD,List.getElem?_take]at hj
    split at hj
    ·exact hj
    ·simp at hj
theorem eD.jo {l:List Cw}(h:eD w v l){t:TypeId}(ht:P.underlying t=some (.slice (P.elem t)))(hs:∀wx,(sizeOf (P.elem t)).run P wx=.ok 3 wx)(p:Nat)(hp:p<l.length):
  ∃vs,(∀wx,(Instr.slice t v (some (.int .i64 p)) none none).run P wx=.ok vs wx)∧eD w vs (l.drop p):=by
 obtain⟨b,off,cap,rfl,hcap,hm,hB,hcell⟩:=h.full (by omega)
 refine⟨.slice (some ⟨b,off+p*3,none⟩) (l.length-p) (cap-p),fun wx=>?_,?_⟩
 ·rw[run_slice_l wx t _ l.length cap ht .i64 _ (by omega) (by omega),hs]
  have hne:¬cap=p:=by omega
  simp[Result.andThen,sliced,hne,gG]
 ·rcases h with⟨hv,_⟩|⟨ad',cap',hv,h1,h2,hc⟩
  ·simp at hv
  ·simp at hv
   obtain⟨rfl,rfl⟩:=hv
   refine .inr ⟨⟨b,off+p*3,none⟩,cap-p,by simp,by simp;omega,by omega,fun j u hj=>?_⟩
   rw[zK,List.getElem?_drop]at hj
   have:=hc _ _ hj
   rw[gG]at this⊢
   rw[Nat.add_assoc]
   exact this
end
theorem Tryz.abH:(prog.info? 35).map (fun i=>(i.zero,i.size,i.bytes))=some (some (.agg #[.int .i64 0,.int .i64 0,.slice none 0 0]),3,40):=by kernel_rfl
theorem Tryz.abg:prog.underlying 22=some (.slice (prog.elem 22)):=by kernel_rfl
theorem Tryz.abf (wx:World):(sizeOf (prog.elem 22)).run prog wx=.ok 3 wx:=by kernel_rfl
theorem abu (vl:Value)(l:List Bm.Ov)(w:World)(h:bM w vl l)(hl:l.length*40≤140737488351232):
  Calls prog 141 #[vl] w fun e w'=>∃v,e=.returned v∧aT 71 w.heap.size w' v l∧Bq w w':=by
 have q:∀(w:World) (a:Option Addr) (n c n' c':Nat),(binOp .eql 33 (.slice a n c) (.slice none n' c')).run prog w=.ok (.bool a.isNone) w:=fun w a n c n' c'=>Lib.run_eql_slice_nil w _ _ a n c n' c' underlying33
 by_cases hn:vl=.slice none 0 0
 ·subst hn
  have:l=[]:=by
   rcases h with⟨_,h⟩|⟨ad,cap,h,_⟩
   ·exact h
   ·simp at h
  subst this
  clear h hl
  go_enter func141,ntmps141
  go_wp2
  go_ret
  exact⟨_,rfl,aT.nil _ _ _,Below.refl _ _⟩
 ·obtain⟨ad,cap,rfl⟩:∃ad cap,vl=.slice (some ad) l.length cap:=by
   rcases h with⟨h,_⟩|⟨ad,cap,h,_⟩
   ·exact absurd h hn
   ·exact⟨ad,cap,h⟩
  clear hn
  obtain⟨w1,hw1,aV,aj,aX⟩:=qO 71 w #[] 0 [] rfl rfl (by simp[maxLen])
  have h1:=h.below aj
  go_enter func141,ntmps141
  go_wp2_with (at_builtin;refine kT rfl (.tmp 5) (.tmp 6) 33 rfl 71 w.heap.size underlying33 Tryz.wY _ [] rfl aX _ l rfl h1 (by simp;omega) (by omega) ?_)
  intro v2 w2 aW az _
  go_wp2
  go_ret
  exact⟨_,rfl,by simpa using aW,aj.trans az⟩
section
variable {P:Program} {w:World}
theorem nK (t ty e:TypeId)(base:Nat)(ht:P.underlying t=some (.slice e))(hinfo:(P.info? e).map (fun i=>(i.zero,i.size,i.bytes))=some (some (.agg #[.int .i64 0,.int .i64 0,.slice none 0 0]),3,40))
  (v:Value) (l:List Cw) (hown:bD e base w v l) (vx:Value) (m:List Cw) (his:eD w vx m) (hone:∀c∈m,c.v.oneCell'=true) (hlen:(l.length+m.length)*40≤140737488355328) (hbase:base≤w.heap.size):
  ∃v' w',(Builtin.append_ #[t,t] ty #[v,vx]).run P w=.ok v' w'∧bD e base w' v' (l++m)∧w.grownBy w' v.ownBlock∧(v'.ownBlock=v.ownBlock∨v'.ownBlock=some w.heap.size):=by
 obtain⟨i,hi,hz,hsize,hb⟩:=info_parts hinfo
 rcases his with⟨hv,hy⟩|⟨ad,cap,hv,h1,h2,hc⟩
 ·subst hy hv
  have hrun:=run_append_owned_none (P:=P) (w:=w) base t ty e i 3 ht hi v l.length _ hown
  exact⟨v,w,hrun,by simpa using hown,World.grownBy.refl _ _,.inl rfl⟩
 ·subst hv
  obtain⟨v',w',hr,h3,h4,_,h5⟩:=run_append_own_at (P:=P) w base t ty e i _ 3 40 ht hi hz hsize hb rfl (by decide) v l.length _ hown ad m.length cap (ccells m) (mh m) hc (kZ m hone) (by unfold maxLen;omega) hlen hbase
  exact⟨v',w',hr,by unfold bD;rw[pE,List.length_append];exact h3,h4,h5⟩
end
theorem jH.one {e n:Int}{v:Value}{o:List Bm.Ov}(hf:dZ o)(hl:o.length*40≤140737488351232):jH [⟨e,n,v,o⟩]:=fun c hc=>by rw[List.mem_singleton.1 hc];exact⟨hf,hl⟩
theorem auN {w:World}{a:Nat}{e n:Int}{v:Value}{o:List Bm.Ov}{t:TypeId}(h:w.heap[a]? =some (.cells #[.int .i64 e,.int .i64 n,v] t (0,0))):eD w (.slice (some ⟨a,0,none⟩) 1 1) [⟨e,n,v,o⟩]:=by
 refine .inr ⟨⟨a,0,none⟩,1,rfl,by simp,by simp[maxLen],fun j u hj=>?_⟩
 rw[gG]
 simp only[ccells,iF,List.append_nil]at hj
 match j,hj with
 |0,hj=>simp at hj;subst hj;exact ai h 0 rfl
 |1,hj=>simp at hj;subst hj;exact ai h 1 rfl
 |2,hj=>simp at hj;subst hj;exact ai h 2 rfl
 |k+3,hj=>simp at hj
end Go.Proofs.YtlmkaljjocflmaaGreatDoor
