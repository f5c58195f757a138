/- Texts of one layer, one behind the other. -/
import Derived.Test.YtmngcecomcadkaaGreatDoorCH1
import Derived.Test.YtmngcecomcadkaaGreatDoorCG1
import Derived.Lib.Strings
import Derived.Lib.AppendStr
import Derived.Lib.UnsafeStr
import Derived.Test.YtmngcecomcadkaaGreatDoorCM1
import Derived.Maps.OwnSet
import Derived.BigQuiet
import Derived.Lib.SliceRun
import Derived.Shelf.Abstract
set_option maxRecDepth 100000
set_option maxHeartbeats 8000000
namespace Go.Proofs.YtmngcecomcadkaaGreatDoor
open Go.RowKit
set_option linter.unusedVariables false
def xA (p:Bool) (k v:ByteArray):Value:=.agg #[.bool p,.string k,.string v]
theorem anx (p:Bool)(k v:ByteArray):Om.chk p k.data.toList v.data.toList=if 1≤k.size∧k.size≤16∧v.size≤32∧(p=true∨v.toList.isEmpty=true)then 0 else 2:=by
 unfold Om.chk
 simp only[Lib.toList_data,List.isEmpty_iff,Lib.size_eq]
theorem lN (p:Bool)(k v:ByteArray)(w:World)(hk:k.size≤140737488351232)(hv:v.size≤140737488351232):
  Calls Tryz.prog 136 #[xA p k v] w fun E w'=>E=.returned (.int .i64 (Om.chk p k.data.toList v.data.toList))∧Below w.heap.size w w':=by
 unfold xA
 obtain⟨c,hc⟩:∃c,Om.chk p k.data.toList v.data.toList=c:=⟨_,rfl⟩
 rw[hc]
 have HC:=hide hc
 clear hc
 go_enter Tryz.func136,Tryz.ntmps136
 go_wp2
 all_goals go_ret
 all_goals refine⟨jh ?_,(Below.refl _ _).alloc (Nat.le_refl _) _⟩
 all_goals rw[←HC.out,anx]
 all_goals clear HC
 all_goals (cases p<;>simp_all<;>first|omega|(intros;omega))
section
variable {P:Program} {w:World} {ops:Array Oper} {rest:List Oper} {o:Oper} {a:Act} {Q:Exit→Act→World→Prop}
theorem yH (hgd:o.guard=none)(sl x:Operand)(t u:TypeId)
  (ho:o.op=.call {callee:=.builtin .append,args:=#[sl,x],argTypes:=#[t,u]})
  (e:TypeId) (base:Nat) (ht:P.underlying t=some (.slice e)) (hu:P.underlying u=some .string) (hinfo:(P.info? e).map (fun i=>(i.zero,i.size,i.bytes))=some (some (.int .u8 0),1,1))
  (v:Value) (zs:List Int) (hs:a.eval sl=v) (hown:Own .u8 e base w v zs) (s:ByteArray) (hx:a.eval x=.string s)
  (hlen:zs.length+s.size≤140737488355328) (hbase:base≤w.heap.size)
  (h:∀v' w',Own .u8 e base w' v' (zs++Om.ints s.data.toList)→Below base w w'→wpList P ops Q rest (a.put o.dst v') w'):wpList P ops Q (o::rest) a w:=by
 obtain⟨i,hi,hz,hsize,hb⟩:=info_parts hinfo
 refine Lib.wpList_append_own_string w hgd sl x t u ho base e i ht hu hi hz hsize hb v zs.length _ hs hown.2 s hx (by unfold maxLen;omega) hlen hbase fun v' w' h1 h2 _=>?_
 refine h v' w' ⟨?_,?_⟩ ((Below.refl _ _).grown h2 hbase fun k' hk=>(hown.2.lt k' hk).1)
 ·intro z hz
  rcases List.mem_append.1 hz with hz|hz
  ·exact hown.1 z hz
  ·unfold Om.ints at hz
   obtain⟨c,_,rfl⟩:=List.mem_map.1 hz
   have:=c.toNat_lt
   exact wf_u8 (by omega) (by omega)
 ·have e1:zs.length+s.size=(zs++Om.ints s.data.toList).length:=by rw[List.length_append,Om.iR,Lib.size_eq]
  rw[e1]at h1
  simpa[Lib.strCells_eq,Lib.byteCells,Om.ints,List.map_append,Function.comp_def]using h1
end
theorem acH (s:ByteArray)(w:World)(hs:s.size≤140737488351232):
  Calls Tryz.prog 246 #[.string s] w fun E w'=>E=.returned (.int .i64 (Om.cnt s.data.toList).length)∧w=w':=by
 have h10:=Vm.kH (x:=s.size) (by omega)
 have e1:((Om.cnt s.data.toList).length:Int)=Vm.sz s.size+s.size:=by rw[Om.lU,←Lib.size_eq];omega
 rw[e1]
 clear e1
 generalize hm:Vm.sz s.size=m at*
 have HM:=hide hm
 clear hm
 go_enter Tryz.func246,Tryz.ntmps246
 go_wp2_with fail
 refine(ae9 _ _ (by omega) (by omega)).mono ?_
 rintro E w1 ⟨rfl,rfl⟩
 rw[Int.toNat_natCast,HM.out]
 go_wp2
 go_ret
 exact⟨rfl,rfl⟩
theorem art (s:ByteArray)(w:World)(hs:s.size≤140737488351232):
  Calls Tryz.prog 246 #[.string s] w fun E w'=>E=.returned (.int .i64 (Om.cnt s.data.toList).length)∧∃m,w'=w.drewN m:=by
 refine(acH s w hs).mono ?_
 rintro E w1 ⟨rfl,rfl⟩
 exact⟨rfl,0,rfl⟩
theorem aag (base:Nat)(v:Value)(zs:List Int)(s:ByteArray)(w:World)(hv:Own .u8 5 base w v zs)(hb:base≤w.heap.size)(hl:zs.length≤140737488353280)(hs:s.size≤64):
  Calls Tryz.prog 245 #[v,.string s] w fun E w'=>∃v',E=.returned v'∧Own .u8 5 base w' v' (zs++Om.cnt s.data.toList)∧Below base w w':=by
 have h10:=Vm.kH (x:=s.size) (by omega)
 have hz10:(Vm.enc s.size).length≤10:=h10
 go_enter Tryz.func245,Tryz.ntmps245
 go_wp2_with fail
 refine(fO _ [] s.size _ (Is.nil _ _) (by simp) (by omega) (by omega)).mono ?_
 rintro E w1 ⟨v1,rfl,aX,aj⟩
 rw[Int.toNat_natCast,List.nil_append]at aX
 have hb1:=aj.size
 have hv1:=hv.below aj
 have is1:=aX.is
 go_wp2_with (at_builtin;refine bP rfl (.tmp 5) (.tmp 9) 61 rfl .u8 5 base 1 Tryz.underlying61 Tryz.info5 (by decide) _ zs rfl hv1 _ (Vm.enc s.size) rfl is1 (by omega) (by omega) ?_)
 intro v2 w2 aP au _
 have hb2:=au.size
 have hl2:(zs++Vm.enc s.size).length≤140737488353290:=by rw[List.length_append];omega
 go_wp2_with (at_builtin;refine yH rfl (.tmp 11) (.tmp 12) 61 9 rfl 5 base Tryz.underlying61 Tryz.underlying9 Tryz.info5 _ (zs++Vm.enc s.size) rfl aP s rfl (by omega) (by omega) ?_)
 intro v3 w3 bD aD
 have aW:Own .u8 5 base w3 v3 (zs++Om.cnt s.data.toList):=by
  unfold Om.cnt
  rw[←Lib.size_eq,←List.append_assoc]
  simpa using bD
 go_wp2
 go_ret
 exact⟨_,rfl,aW,((aj.mono hb).trans au).trans aD⟩
theorem acS (p:Bool)(k v:ByteArray)(w:World)(hc:Om.chk p k.data.toList v.data.toList=0):
  Calls Tryz.prog 244 #[xA p k v] w fun E w'=>E=.returned (.int .i64 (Om.eG p k.data.toList v.data.toList).length)∧Below w.heap.size w w':=by
 have hh:=Om.jf hc
 rw[←Lib.size_eq,←Lib.size_eq]at hh
 have h1:=Om.aex (s:=k.data.toList) (by rw[←Lib.size_eq];omega)
 have h2:=Om.aex (s:=v.data.toList) (by rw[←Lib.size_eq];omega)
 have hk:k.size≤140737488351232:=by omega
 have hv:v.size≤140737488351232:=by omega
 clear hc hh
 unfold xA
 cases p
 ·obtain⟨n,hn⟩:∃n,(Om.cnt k.data.toList).length=n:=⟨_,rfl⟩
  have e:((Om.eG false k.data.toList v.data.toList).length:Int)=1+n:=by unfold Om.eG;simp[hn];omega
  rw[e]
  rw[hn]at h1
  have HN:=hide hn
  clear hn e h2
  go_enter Tryz.func244,Tryz.ntmps244
  go_wp2_with fail
  refine(acH k _ hk).mono ?_
  rintro E w1 ⟨rfl,rfl⟩
  rw[HN.out]
  go_wp2
  go_ret
  exact⟨rfl,(Below.refl _ _).alloc (Nat.le_refl _) _⟩
 ·have e:((Om.eG true k.data.toList v.data.toList).length:Int)=1+((Om.cnt k.data.toList).length:Nat)+((Om.cnt v.data.toList).length:Nat):=by unfold Om.eG;simp;omega
  rw[e]
  clear e
  go_enter Tryz.func244,Tryz.ntmps244
  go_wp2_with fail
  go_quiet ((go_at_call 246;refine Calls.quiet_of (art _ _ (by assumption))))
  go_wp2
  go_ret
  exact⟨rfl,below_drewN ((Below.refl _ _).alloc (Nat.le_refl _) _) _⟩
def pU (o:Bm.Ov):List Value:=[.bool o.p,.string o.k,.string o.v]
def ocells:List Bm.Ov→List Value
 |[]=>[]
 |o::r=>pU o++ocells r
theorem uF:∀(l:List Bm.Ov),(ocells l).length=l.length*3
 |[]=>rfl
 |o::r=>by
  have:=uF r
  simp only[ocells,pU,List.length_append,List.length_cons,List.length_nil]
  omega
theorem aa3:∀(l m:List Bm.Ov),ocells (l++m)=ocells l++ocells m
 |[],_=>rfl
 |o::l,m=>by simp only[List.cons_append,ocells,aa3 l m,List.append_assoc]
theorem yV:∀(l:List Bm.Ov),∀u∈ocells l,u.oneCell'=true
 |[],u,h=>by simp[ocells]at h
 |o::r,u,h=>by
  rcases List.mem_append.1 h with h|h
  ·simp only[pU,List.mem_cons,List.not_mem_nil,or_false]at h
   rcases h with rfl|rfl|rfl<;>rfl
  ·exact yV r u h
theorem wZ:∀(l:List Bm.Ov) (i:Nat) (hi:i<l.length),(ocells l)[i*3]? =some (.bool l[i].p)∧(ocells l)[i*3+1]? =some (.string l[i].k)∧(ocells l)[i*3+2]? =some (.string l[i].v)
 |[],_,hi=>by simp at hi
 |o::r,0,hi=>by simp[ocells,pU]
 |o::r,i+1,hi=>by
  have:=wZ r i (by simpa using hi)
  simp only[ocells,pU]
  rw[show(i+1)*3=i*3+3 by omega]
  simpa[List.getElem?_append]using this
def dh (w:World) (v:Value) (l:List Bm.Ov):Prop:=
 (v=.slice none 0 0∧l=[])∨∃ad cap,v=.slice (some ad) l.length cap∧l.length≤cap∧cap≤maxLen∧∀j u,(ocells l)[j]? =some u→w.cell? (ad.add j)=some u
def bg (e:TypeId) (base:Nat) (w:World) (v:Value) (l:List Bm.Ov):Prop:=w.ownsRow base e 3 v l.length (ocells l)
def iL (l:List Bm.Ov):Prop:=∀o∈l,o.k.size≤140737488351232∧o.v.size≤140737488351232
theorem dh.nil (w:World):dh w (.slice none 0 0) []:=.inl ⟨rfl,rfl⟩
theorem bg.nil (e:TypeId)(base:Nat)(w:World):bg e base w (.slice none 0 0) []:=World.ownsRow_nil _ _ _ _
theorem dh.below {w w':World}{v:Value}{l:List Bm.Ov}(h:dh w v l)(hb:Below w.heap.size w w'):dh w' v l:=by
 rcases h with h|⟨ad,cap,hv,h1,h2,hc⟩
 ·exact .inl h
 ·refine .inr ⟨ad,cap,hv,h1,h2,fun j u hj=>?_⟩
  have:=hc j u hj
  rw[hb.cell (World.block_lt_of_cell? _ _ this)]
  exact this
theorem dh.drewN {w:World}{v:Value}{l:List Bm.Ov}(h:dh w v l)(n:Nat):dh (w.drewN n) v l:=h.below (below_drewN (Below.refl _ _) n)
theorem dh.shape {w:World}{v:Value}{l:List Bm.Ov}(h:dh w v l):∃ao cap,v=.slice ao l.length cap∧l.length≤cap∧cap≤maxLen:=by
 rcases h with⟨hv,e⟩|⟨ad,cap,hv,h1,h2,_⟩
 ·subst e;exact⟨none,0,hv,by simp,by simp⟩
 ·exact⟨some ad,cap,hv,h1,h2⟩
theorem dh.bare {w:World}{v:Value}(h:dh w v []):∃ao cap,v=.slice ao 0 cap:=by
 obtain⟨ao,cap,h,_⟩:=h.shape
 exact⟨ao,cap,h⟩
theorem dh.full {w:World}{v:Value}{l:List Bm.Ov}(h:dh w v l)(hne:0<l.length):
  ∃b off cap,v=.slice (some ⟨b,off,none⟩) l.length cap∧l.length≤cap∧cap≤maxLen∧b<w.heap.size∧
   ∀i o,l[i]? =some o→w.cell? ⟨b,off+i*3,none⟩=some (.bool o.p)∧w.cell? ⟨b,off+i*3+1,none⟩=some (.string o.k)∧w.cell? ⟨b,off+i*3+2,none⟩=some (.string o.v):=by
 rcases h with⟨_,h⟩|⟨⟨b,off,spot⟩,cap,hv,h1,h2,hc⟩
 ·subst h;simp at hne
 ·have h0:=hc 0 _ (wZ l 0 hne).1
  have hspot:spot=none:=by simpa[Addr.add]using World.cell?_spot h0
  subst hspot
  refine⟨b,off,cap,hv,h1,h2,World.block_lt_of_cell? _ _ h0,fun i o kT=>?_⟩
  obtain⟨hi,rfl⟩:=List.getElem?_eq_some_iff.1 kT
  obtain⟨g1,g2,g3⟩:=wZ l i hi
  have k1:=hc _ _ g1
  have k2:=hc _ _ g2
  have k3:=hc _ _ g3
  rw[gF]at k1 k2 k3
  exact⟨k1,by rw[Nat.add_assoc];exact k2,by rw[Nat.add_assoc];exact k3⟩
theorem bg.is {e base:Nat}{w:World}{v:Value}{l:List Bm.Ov}(h:bg e base w v l):dh w v l:=by
 rcases h.2 with⟨hv,hn⟩|⟨g,cap,cur,hv,h1,hh,hc,hm,hs,ht⟩
 ·exact .inl ⟨hv,List.eq_nil_of_length_eq_zero hn⟩
 ·refine .inr ⟨⟨g,0,none⟩,cap,hv,hc,hm,fun j u hj=>?_⟩
  exact h.cells (by rw[hv];rfl) j u hj
theorem bg.below {e base:Nat}{w w':World}{v:Value}{l:List Bm.Ov}(h:bg e base w v l)(hb:Below w.heap.size w w'):bg e base w' v l:=by
 refine⟨h.1,?_⟩
 rcases h.2 with h|⟨g,cap,cur,hv,h1,hh,r⟩
 ·exact .inl h
 ·refine .inr ⟨g,cap,cur,hv,h1,?_,r⟩
  rw[hb.block g (Array.getElem?_eq_some_iff.1 hh).1]
  exact hh
theorem bg.kept {e base:Nat}{w w':World}{v:Value}{l:List Bm.Ov}{row:Option Nat}(h:bg e base w v l)(hg:w.grownBy w' row)(hne:v.ownBlock=none∨v.ownBlock≠row):bg e base w' v l:=World.ownsRow.kept h hg hne
theorem bg.bu {e base base':Nat}{w:World}{v:Value}{l:List Bm.Ov}(h:bg e base w v l)(hb:base'≤base):bg e base' w v l:=by
 refine⟨h.1,?_⟩
 rcases h.2 with h|⟨g,cap,cur,hv,h1,r⟩
 ·exact .inl h
 ·exact .inr ⟨g,cap,cur,hv,by omega,r⟩
theorem bg.block {e base:Nat}{w:World}{v:Value}{l:List Bm.Ov}(h:bg e base w v l):∀b,v.ownBlock=some b→base≤b∧b<w.heap.size:=World.ownsRow.lt h
theorem zY (e:TypeId)(w:World)(cs:Array Value)(n:Nat)(l:List Bm.Ov)(hn:l.length=n)(h:cs.toList=ocells l)(hm:n≤maxLen):
  ∃W,w.alloc (.cells cs e)=W∧W.heap.size=w.heap.size+1∧Below w.heap.size w W∧bg e w.heap.size W (.slice (some ⟨w.heap.size,0,none⟩) n n) l:=by
 subst hn
 refine⟨_,rfl,by simp,(Below.refl _ _).alloc (Nat.le_refl _) _,?_⟩
 have ho:=World.ownsRow_lit (base:=w.heap.size) (e:=e) (size:=3) w cs l.length (Nat.le_refl _) hm (by have:=congrArg List.length h;rw[uF]at this;simpa using this)
 rw[h]at ho
 exact ho
section
variable {P:Program} {w:World} {ops:Array Oper} {rest:List Oper} {o:Oper} {a:Act} {Q:Exit→Act→World→Prop}
theorem pK (hgd:o.guard=none)(s x:Operand)(t:TypeId)
  (ho:o.op=.call {callee:=.builtin .append,args:=#[s,x],argTypes:=#[t,t]})
  (e:TypeId) (base:Nat) (ht:P.underlying t=some (.slice e)) (hinfo:(P.info? e).map (fun i=>(i.zero,i.size,i.bytes))=some (some (.agg #[.bool false,.string ⟨#[]⟩,.string ⟨#[]⟩]),3,40))
  (v:Value) (l:List Bm.Ov) (hs:a.eval s=v) (hown:bg e base w v l) (vx:Value) (m:List Bm.Ov) (hx:a.eval x=vx) (his:dh w vx m)
  (hlen:(l.length+m.length)*40≤140737488355328) (hbase:base≤w.heap.size)
  (h:∀v' w',bg e base w' v' (l++m)→Below base w w'→w.grownBy w' v.ownBlock→wpList P ops Q rest (a.put o.dst v') w'):wpList P ops Q (o::rest) a w:=by
 obtain⟨i,hi,hz,hsize,hb⟩:=info_parts hinfo
 have hn:l.length+m.length≤140737488355328:=by omega
 rcases his with⟨hv,hy⟩|⟨ad,cap,hv,h1,h2,hc⟩
 ·subst hy
  refine wpList_append_own_none hgd s x t ho base e i 3 ht hi v l.length _ hs hown (hx.trans hv) (h v w (by simpa using hown) (Below.refl _ _) (World.grownBy.refl _ _))
 ·refine wpList_append_own w hgd s x t ho base e i _ 3 40 ht hi hz hsize hb rfl (by decide) v l.length _ hs hown ad m.length cap (ocells m) (hx.trans hv) (uF m) hc (yV m) (by unfold maxLen;omega) hlen hbase ?_
  intro v' w' ho' hg _
  refine h v' w' (by unfold bg;rw[aa3,List.length_append];exact ho') ((Below.refl _ _).grown hg hbase fun k' hk=>?_) hg
  exact(World.ownsRow.lt hown k' hk).1
end
theorem Tryz.ab8:(Tryz.prog.info? 111).map (fun i=>(i.zero,i.size,i.bytes))=some (some (.agg #[.bool false,.string ⟨#[]⟩,.string ⟨#[]⟩]),3,40):=by kernel_rfl
end Go.Proofs.YtmngcecomcadkaaGreatDoor
namespace Go.Proofs.YtmngcecomcadkaaGreatDoor
open Go.RowKit Go.Maps
open Bm (Ov)
set_option linter.unusedVariables false
theorem Tryz.keyed:Keyed Tryz.prog 9:=string_keyed Tryz.underlying9
def Ren:Value→Option (DataW Unit×List MemPlace)
 |.agg cs=>match cs.toList with
  |[.string s,.bool b]=>some (.agg [.lit (.string s.data.toList),.lit (.bool b)],[])
  |_=>none
 |_=>none
def env (v:ByteArray) (p:Bool):Value:=.agg #[.string v,.bool p]
theorem avh (o:Ov):Ren (env o.v o.p)=some (Tm.el o,[]):=rfl
theorem World.ownsMap.tight {P:Program}{k:TypeId}{R:Value→Option (DataW Unit×List MemPlace)}{w:World}{b n:Nat}{D:DataW Unit}(h:w.ownsMap P k R b n D):w.ownsMap P k R b (Maps.size D) D:=by
 obtain⟨es,clock,hb,F,hs,rfl⟩:=h
 exact⟨es,clock,hb,F,by simp[Maps.size,length_sorted],rfl⟩
structure Tb (p b:Nat) (w:World) (t:List Ov):Prop where
 blk:w.heap[p]? =some (.cells #[.map (some b)] 235 (0,0))
 own:w.ownsMap Tryz.prog 9 Ren b t.length (Tm.dat t)
 up:Tm.Up t
theorem Tb.plt {p b:Nat}{w:World}{t:List Ov}(h:Tb p b w t):p<w.heap.size:=ax h.blk
theorem Tb.blt {p b:Nat}{w:World}{t:List Ov}(h:Tb p b w t):b<w.heap.size:=h.own.lt
theorem Tb.agree {p b:Nat}{w w':World}{t:List Ov}(h:Tb p b w t)(h1:w'.heap[p]? =w.heap[p]?)(h2:w'.heap[b]? =w.heap[b]?):Tb p b w' t:=by
 refine⟨h1.trans h.blk,?_,h.up⟩
 obtain⟨es,clock,hb,r⟩:=h.own
 exact⟨es,clock,h2.trans hb,r⟩
theorem Tb.below {p b:Nat}{w w':World}{t:List Ov}(h:Tb p b w t)(hb:Below w.heap.size w w'):Tb p b w' t:=h.agree (hb.block p h.plt) (hb.block b h.blt)
theorem Tb.cell {p b:Nat}{w:World}{t:List Ov}(h:Tb p b w t):w.cell? ⟨p,0,none⟩=some (.map (some b)):=ai h.blk 0 rfl
theorem Tb.ne {p b:Nat}{w:World}{t:List Ov}(h:Tb p b w t):p≠b:=fun e=>by
 obtain⟨es,clock,hb,_⟩:=h.own
 have:=h.blk
 rw[e,hb]at this
 cases this
theorem Tb.row {p b:Nat}{w:World}{t:List Ov}(h:Tb p b w t){g j:Nat}{u:Value}(hc:w.cell? ⟨g,j,none⟩=some u):g≠b:=fun e=>by
 obtain⟨es,clock,hb,_⟩:=h.own
 subst e
 simp[World.cell?,hb]at hc
theorem agt (w:World)(d:Nat)(m:Option Nat):(Op.equalIn (d+1) 233 (.map m) (.map none)).run Tryz.prog w=.ok m.isNone w:=by
 have h:=Tryz.underlying233
 cases m<;>simp[Op.equalIn,run_underlying h]
theorem Tryz.aru (w:World)(m:Option Nat):(binOp .neq 233 (.map m) (.map none)).run Tryz.prog w=.ok (.bool (!m.isNone)) w:=by
 simp only[binOp]
 simp[Op.equal,Op.maxDepth,agt w 9999 m]
theorem alA (p b:Nat)(w:World)(hc:w.cell? ⟨p,0,none⟩=some (.map (some b))):
  Calls Tryz.prog 212 #[.pointer (some ⟨p,0,none⟩)] w fun E w'=>E=.returned (.bool true)∧w=w':=by
 have hn:=Tryz.aru w (some b)
 go_enter Tryz.func212,Tryz.ntmps212
 go_wp2
 go_ret
 exact⟨rfl,rfl⟩
theorem apn (w:World):Calls Tryz.prog 151 #[] w fun E w'=>E=.returned (.pointer (some ⟨w.heap.size+1,0,none⟩))∧Tb (w.heap.size+1) w.heap.size w' []∧Below w.heap.size w w':=by
 obtain⟨w1,hw1⟩:∃w1,w.alloc (.map #[] 0)=w1:=⟨_,rfl⟩
 have hm1:w1.ownsMap Tryz.prog 9 Ren w.heap.size 0 (.map []):=by rw[←hw1];exact World.ownsMap_made _ _ _ _
 have aT:w1.heap.size=w.heap.size+1:=by rw[←hw1];simp
 have b1:Below w.heap.size w w1:=by rw[←hw1];exact(Below.refl _ _).alloc (Nat.le_refl _) _
 obtain⟨w2,hw2,dz,b2,B2⟩:=ak w1 #[.map (some w.heap.size)] 235
 rw[aT]at B2 b2
 have H:Hid (Tb (w.heap.size+1) w.heap.size w2 []∧Below w.heap.size w w2):=hide ⟨⟨B2,by
  obtain⟨es,clock,hb,r⟩:=hm1
  exact⟨es,clock,(b2.block _ (by omega)).trans hb,r⟩,List.Pairwise.nil⟩,b1.trans (b2.mono (by omega))⟩
 have hmm:=@run_makeMap Tryz.prog
 clear hm1 b1 b2 B2
 go_enter Tryz.func151,Tryz.ntmps151
 go_wp2
 go_ret
 exact⟨rfl,H.out⟩
def gv (t:List Ov) (k:ByteArray):ByteArray:=match Tm.get t k with|some o=>o.v|none=>⟨#[]⟩
def gp (t:List Ov) (k:ByteArray):Bool:=match Tm.get t k with|some o=>o.p|none=>false
end Go.Proofs.YtmngcecomcadkaaGreatDoor
namespace Go.Proofs.YtmngcecomcadkaaGreatDoor
open Go.RowKit
set_option linter.unusedVariables false
theorem aaT {l:List Bm.Ov}{k:Nat}{o:Bm.Ov}(h:∀q∈l.take k,q.c=0)(ho:l[k]? =some o)(hc:o.c=0):∀q∈l.take (k+1),q.c=0:=by
 obtain⟨hk,rfl⟩:=List.getElem?_eq_some_iff.1 ho
 intro q hq
 rw[List.take_succ_eq_append_getElem hk]at hq
 rcases List.mem_append.1 hq with hq|hq
 ·exact h q hq
 ·rw[List.mem_singleton.1 hq];exact hc
theorem mg (vl:Value)(l:List Bm.Ov)(w:World)(h:dh w vl l)(hf:iL l)(hl:l.length≤140737488355328):
  Calls Tryz.prog 96 #[vl] w fun E w'=>E=.returned (.int .i64 (Bm.dY l))∧Below w.heap.size w w':=by
 by_cases h0:l.length=0
 ·have:l=[]:=List.eq_nil_of_length_eq_zero h0
  subst this
  obtain⟨ao,cap,rfl⟩:=h.bare
  clear h hf hl h0
  go_enter Tryz.func96,Tryz.ntmps96
  go_wp2
  go_ret
  exact⟨rfl,Below.refl _ _⟩
 ·by_cases h8:8<l.length
  ·obtain⟨ao,cap,rfl,_,_⟩:=h.shape
   rw[Bm.akB h8]
   clear h hf
   have e0:((l.length:Int)==0)=false:=by rw[beq_eq_false_iff_ne];omega
   have e8:(8:Int)<l.length:=by omega
   go_enter Tryz.func96,Tryz.ntmps96
   go_wp2
   go_ret
   exact⟨rfl,Below.refl _ _⟩
  ·obtain⟨b1,o1,c1,rfl,_,_,hB,hcell⟩:=h.full (by omega)
   rw[Bm.anP h0 h8]
   have e0:((l.length:Int)==0)=false:=by rw[beq_eq_false_iff_ne];omega
   have e8:¬(8:Int)<l.length:=by omega
   clear h
   generalize hn:l.length=n at*
   have HN:=hide hn
   have HC:=hide hcell
   have HF:=hide hf
   clear hn hcell hf
   go_enter Tryz.func96,Tryz.ntmps96
   go_wp2
   go_loopw [14] (fun i wr=>∃(k:Nat),k≤n∧i=.int .i64 k∧Hid (∀q∈l.take k,q.c=0)∧Below w.heap.size w wr) (fun i _=>n-(intOf i).toNat)
   case atStart=>exact⟨0,by omega,rfl,hide (by simp),Below.refl _ _⟩
   case round=>
    obtain⟨k,hk,rfl,HT,aF⟩:=hrel
    by_cases hlt:k<n
    ·obtain⟨o,ho⟩:∃o,l[k]? =some o:=⟨l[k]'(by have:=HN.out;omega),by rw[List.getElem?_eq_getElem]⟩
     obtain⟨c0,c1,c2⟩:=HC.out k o ho
     have sz:=aF.size
     have d0:=(aF.cell (p:=⟨b1,o1+k*3,none⟩) hB).trans c0
     have d1:=(aF.cell (p:=⟨b1,o1+k*3+1,none⟩) hB).trans c1
     have d2:=(aF.cell (p:=⟨b1,o1+k*3+2,none⟩) hB).trans c2
     have HO:=hide ho
     clear c0 c1 c2 ho
     have hlt':(k:Int)<n:=by omega
     obtain⟨hk1,hv1⟩:=HF.out o (List.mem_of_getElem? HO.out)
     go_wp2_with fail
     refine(lN o.p o.k o.v _ hk1 hv1).mono ?_
     rintro E w1 ⟨rfl,aj⟩
     have dE:Below wr.heap.size wr (wr.alloc (.cells #[.bool o.p,.string o.k,.string o.v] 111)):=(Below.refl _ _).alloc (Nat.le_refl _) _
     have au:Below w.heap.size w w1:=(aF.trans (dE.mono sz)).trans (aj.mono (by simp;omega))
     clear dE aj d0 d1 d2
     rcases(show Om.chk o.p o.k.data.toList o.v.data.toList=0∨_ from Om.yD _ _ _)with hc|hc
     ·rw[hc]
      have HT2:=hide (aaT HT.out HO.out hc)
      clear hc
      go_wp2
      go_roundw
      case rel=>exact⟨k+1,by omega,by go_num,HT2,au⟩
      case measure=>simp[intOf];omega
     ·rw[hc]
      have HB:=hide (Bm.ada (List.mem_of_getElem? HO.out) (show Bm.Ov.c o≠0 by unfold Bm.Ov.c Bm.Ov.kl Bm.Ov.vl;rw[hc];simp))
      clear hc
      go_wp2
      go_ret
      exact⟨jh HB.out.symm,au⟩
    ·have hkn:k=n:=by omega
     have HB:Hid (Bm.first l=0):=hide (Bm.ry (fun q hq=>HT.out q (by rw[List.take_of_length_le (by have:=HN.out;omega)];exact hq)))
     have hlt':¬(k:Int)<n:=by omega
     go_wp2
     go_ret
     exact⟨jh HB.out.symm,aF⟩
theorem ae8 (a b:ByteArray)(w:World)(ha:a.size≤140737488355328)(hb:b.size≤140737488355328):
  Calls Tryz.prog 242 #[.string a,.string b] w fun E w'=>E=.returned (.int .i64 (Bm.com a.data.toList b.data.toList))∧∃m,w'=w.drewN m:=by
 have la:a.data.toList.length=a.size:=(Lib.size_eq a).symm
 have lb:b.data.toList.length=b.size:=(Lib.size_eq b).symm
 go_enter Tryz.func242,Tryz.ntmps242
 go_wp2
 all_goals
  go_loopw [13] (fun i wr=>∃(k:Nat),k≤a.size∧k≤b.size∧i=.int .i64 k∧Hid (a.data.toList.take k=b.data.toList.take k)∧∃m,wr=w.drewN m) (fun i _=>a.size+b.size-(intOf i).toNat)
  case atStart=>exact⟨0,by omega,by omega,rfl,hide rfl,0,rfl⟩
  case round=>
   obtain⟨k,hka,hkb,rfl,HT,m,rfl⟩:=hrel
   by_cases hA:k<a.size
   ·by_cases hB:k<b.size
    ·have hA':(k:Int)<a.size:=by omega
     have hB':(k:Int)<b.size:=by omega
     obtain⟨c,hc⟩:∃c:UInt8,a[k]=c:=⟨_,rfl⟩
     obtain⟨d,hd⟩:∃c:UInt8,b[k]=c:=⟨_,rfl⟩
     have ea:a.data.toList[k]? =some c:=by rw[List.getElem?_eq_getElem (by omega),←hc];rfl
     have eb:b.data.toList[k]? =some d:=by rw[List.getElem?_eq_getElem (by omega),←hd];rfl
     have EA:=hide ea
     have EB:=hide eb
     clear ea eb
     by_cases hcd:c=d
     ·have ht:((c.toNat:Int) !=(d.toNat:Int))=false:=by simp[hcd]
      have HK:Hid (a.data.toList.take (k+1)=b.data.toList.take (k+1)):=hide (by
       have h1:=EA.out
       have h2:=EB.out
       rw[List.take_add_one,List.take_add_one,HT.out,h1,h2,hcd])
      clear hcd
      go_wp2
      go_quiet (fail)
      go_wp2
      go_roundw
      case rel=>exact⟨k+1,by omega,by omega,by go_num,HK,_,rfl⟩
      case measure=>simp[intOf];omega
     ·have ht:((c.toNat:Int) !=(d.toNat:Int))=true:=by
       have:c.toNat≠d.toNat:=fun h=>hcd (UInt8.toNat_inj.1 h)
       simp;omega
      have HK:Hid (Bm.com a.data.toList b.data.toList=k):=hide (Bm.aas _ _ k (by omega) (by omega) HT.out (.inr (.inr (by rw[EA.out,EB.out];simpa using hcd))))
      clear hcd
      go_wp2
      go_quiet (fail)
      go_wp2
      go_ret
      exact⟨jh (by rw[HK.out]),_,World.drewN_drewN _ _ _⟩
    ·have hB':¬(k:Int)<b.size:=by omega
     have HK:Hid (Bm.com a.data.toList b.data.toList=k):=hide (Bm.aas _ _ k (by omega) (by omega) HT.out (.inr (.inl (by omega))))
     have hkk:k=b.size:=by omega
     have h':¬a.size≤k:=by omega
     try (exfalso;omega)
     try (
      go_wp2
      go_ret
      exact⟨jh (by rw[HK.out];omega),m,rfl⟩)
   ·have hA':¬(k:Int)<a.size:=by omega
    have HK:Hid (Bm.com a.data.toList b.data.toList=k):=hide (Bm.aas _ _ k (by omega) (by omega) HT.out (.inl (by omega)))
    have hkk:k=a.size:=by omega
    have hB':b.size<a.size∨¬b.size<a.size:=by omega
    try (exfalso;omega)
    try (
     go_wp2
     go_ret
     exact⟨jh (by rw[HK.out];omega),m,rfl⟩)
theorem uR (a b:ByteArray)(w:World)(ha:a.size≤140737488355328)(hb:b.size≤140737488355328):
  Calls Tryz.prog 242 #[.string a,.string b] w fun E w'=>E=.returned (.int .i64 (Bm.com a.data.toList b.data.toList))∧Below w.heap.size w w':=
 (ae8 a b w ha hb).mono (by rintro E w' ⟨rfl,m,rfl⟩;exact⟨rfl,below_drewN (Below.refl _ _) m⟩)
set_option maxRecDepth 100000
def bH (e:TypeId) (w w':World):Prop:=∀(g:Nat) (cs:Array Value) (t:TypeId) (fr:Nat×Nat),w.heap[g]? =some (.cells cs t fr)→t≠e→w'.heap[g]? =some (.cells cs t fr)
theorem bH.refl (e:TypeId)(w:World):bH e w w:=fun _ _ _ _ h _=>h
theorem bH.trans {e:TypeId}{w w1 w2:World}(h:bH e w w1)(k:bH e w1 w2):bH e w w2:=fun g cs t fr hg ht=>k g cs t fr (h g cs t fr hg ht) ht
theorem bH.of_below {e:TypeId}{w w':World}(h:Below w.heap.size w w'):bH e w w':=fun g cs t fr hg _=>(h.block g (ax hg)).trans hg
theorem Own.ajp {k:IntKind}{e:TypeId}{base:Nat}{w:World}{v:Value}{zs:List Int}(h:Own k e base w v zs){g:Nat}(hg:v.ownBlock=some g):∃cs,w.heap[g]? =some (.cells cs e (0,0)):=by
 rcases h.2.2 with⟨rfl,_⟩|⟨g',cap,cur,rfl,_,hh,_⟩
 ·simp[Value.ownBlock]at hg
 ·simp[Value.ownBlock]at hg
  subst hg
  exact⟨_,hh⟩
theorem bH.aQ {k:IntKind}{e:TypeId}{base:Nat}{w w':World}{v:Value}{zs:List Int}(h:Own k e base w v zs)(hg:w.grownBy w' v.ownBlock):bH e w w':=by
 intro g cs t fr hc ht
 refine(hg.block g (ax hc) fun e1=>?_).trans hc
 obtain⟨cs',h'⟩:=h.ajp e1.symm
 rw[h']at hc
 simp at hc
 exact ht hc.2.1.symm
section
variable {P:Program} {w:World} {ops:Array Oper} {rest:List Oper} {o:Oper} {a:Act} {Q:Exit→Act→World→Prop}
theorem oM (hgd:o.guard=none)(sl x:Operand)(t u:TypeId)
  (ho:o.op=.call {callee:=.builtin .append,args:=#[sl,x],argTypes:=#[t,u]})
  (e:TypeId) (base:Nat) (ht:P.underlying t=some (.slice e)) (hu:P.underlying u=some .string) (hinfo:(P.info? e).map (fun i=>(i.zero,i.size,i.bytes))=some (some (.int .u8 0),1,1))
  (v:Value) (zs:List Int) (hs:a.eval sl=v) (hown:Own .u8 e base w v zs) (s:ByteArray) (hx:a.eval x=.string s)
  (hlen:zs.length+s.size≤140737488355328) (hbase:base≤w.heap.size)
  (h:∀v' w',Own .u8 e base w' v' (zs++Om.ints s.data.toList)→Below base w w'→bH e w w'→wpList P ops Q rest (a.put o.dst v') w'):wpList P ops Q (o::rest) a w:=by
 obtain⟨i,hi,hz,hsize,hb⟩:=info_parts hinfo
 refine Lib.wpList_append_own_string w hgd sl x t u ho base e i ht hu hi hz hsize hb v zs.length _ hs hown.2 s hx (by unfold maxLen;omega) hlen hbase fun v' w' h1 h2 _=>?_
 refine h v' w' ⟨?_,?_⟩ ((Below.refl _ _).grown h2 hbase fun k' hk=>(hown.2.lt k' hk).1) (bH.aQ hown h2)
 ·intro z hz
  rcases List.mem_append.1 hz with hz|hz
  ·exact hown.1 z hz
  ·unfold Om.ints at hz
   obtain⟨c,_,rfl⟩:=List.mem_map.1 hz
   have:=c.toNat_lt
   exact wf_u8 (by omega) (by omega)
 ·have e1:zs.length+s.size=(zs++Om.ints s.data.toList).length:=by rw[List.length_append,Om.iR,Lib.size_eq]
  rw[e1]at h1
  simpa[Lib.strCells_eq,Lib.byteCells,Om.ints,List.map_append,Function.comp_def]using h1
end
theorem ala (vb:Value)(bs:List Int)(w:World)(hb:Is .u8 w vb bs)(hl:bs.length≤140737488355328):
  Calls Tryz.prog 232 #[vb] w fun e w'=>∃v,e=.returned v∧Own .u8 5 w.heap.size w' v bs∧Below w.heap.size w w':=by
 have q:∀(w:World) (a:Option Addr) (n c n' c':Nat),(binOp .eql 61 (.slice a n c) (.slice none n' c')).run Tryz.prog w=.ok (.bool a.isNone) w:=fun w a n c n' c'=>Lib.run_eql_slice_nil w _ _ a n c n' c' Tryz.underlying61
 by_cases hn:vb=.slice none 0 0
 ·subst hn
  have:bs=[]:=by
   rcases hb.2 with⟨_,h⟩|⟨ad,cap,h,_⟩
   ·exact h
   ·simp at h
  subst this
  clear hb hl
  go_enter Tryz.func232,Tryz.ntmps232
  go_wp2
  go_ret
  exact⟨_,rfl,Own.nil _ _ _ _,Below.refl _ _⟩
 ·obtain⟨ad,cap,rfl⟩:∃ad cap,vb=.slice (some ad) bs.length cap:=by
   rcases hb.2 with⟨h,_⟩|⟨ad,cap,h,_⟩
   ·exact absurd h hn
   ·exact⟨ad,cap,h⟩
  clear hn
  obtain⟨w1,hw1,aT,aj,aX⟩:=lF .u8 5 w #[] 0 [] rfl rfl (by simp[maxLen]) (by simp)
  have hb1:=hb.below aj
  go_enter Tryz.func232,Tryz.ntmps232
  go_wp2_with (at_builtin;refine bP rfl (.tmp 5) (.tmp 6) 61 rfl .u8 5 w.heap.size 1 Tryz.underlying61 Tryz.info5 (by decide) _ [] rfl aX _ bs rfl hb1 (by simp;omega) (by omega) ?_)
  intro v2 w2 aP au _
  go_wp2
  go_ret
  exact⟨_,rfl,aP,aj.trans au⟩
theorem uC (base:Nat)(v:Value)(zs:List Int)(x:Nat)(w:World)(hv:Own .u8 5 base w v zs)(hb:base≤w.heap.size)(hl:zs.length≤140737488355000)(hx:x<128):
  Calls Tryz.prog 233 #[v,.int .i64 x] w fun E w'=>∃v',E=.returned v'∧Own .u8 5 base w' v' (zs++Vm.enc x)∧Below base w w'∧bH 5 w w':=by
 have hz1:(Vm.enc x).length=1:=Vm.iA hx
 go_enter Tryz.func233,Tryz.ntmps233
 go_wp2_with fail
 refine(fO _ [] x _ (Is.nil _ _) (by simp) (by omega) (by omega)).mono ?_
 rintro E w1 ⟨v1,rfl,aX,aj⟩
 rw[Int.toNat_natCast,List.nil_append]at aX
 have hb1:=aj.size
 have hv1:=hv.below aj
 have is1:=aX.is
 go_wp2_with (at_builtin;refine bP rfl (.tmp 5) (.tmp 8) 61 rfl .u8 5 base 1 Tryz.underlying61 Tryz.info5 (by decide) _ zs rfl hv1 _ (Vm.enc x) rfl is1 (by omega) (by omega) ?_)
 intro v2 w2 aP au gT
 go_wp2
 go_ret
 exact⟨_,rfl,aP,(aj.mono hb).trans au,(bH.of_below aj).trans (bH.aQ hv1 gT)⟩
theorem ado (k:ByteArray)(n:Nat):List.take (k.size-n) (List.drop n k.data.toList)=List.drop n k.data.toList:=by
 rw[List.take_of_length_le]
 rw[List.length_drop,←Lib.size_eq]
 exact Nat.le_refl _
theorem aeE (base:Nat)(v:Value)(zs:List Int)(k:ByteArray)(n:Nat)(w:World)(hv:Own .u8 5 base w v zs)(hb:base≤w.heap.size)(hl:zs.length≤140737488354000)(hk:k.size≤64)(hn:n≤k.size):
  Calls Tryz.prog 243 #[v,.string k,.int .i64 n] w fun E w'=>∃v',E=.returned v'∧Own .u8 5 base w' v' (zs++(Vm.enc n++(Vm.enc (k.size-n)++Om.ints (k.data.toList.drop n))))∧Below base w w'∧bH 5 w w':=by
 have hz1:(Vm.enc n).length=1:=Vm.iA (by omega)
 have hz2:(Vm.enc (k.size-n)).length=1:=Vm.iA (by omega)
 have hsub:(k.size:Int)-n=((k.size-n:Nat):Int):=by omega
 have hdt:=ado k n
 go_enter Tryz.func243,Tryz.ntmps243
 go_wp2_with fail
 refine(uC base v zs n _ hv hb (by omega) (by omega)).mono ?_
 rintro E w1 ⟨v1,rfl,aX,aj,kp1⟩
 have hb1:=aj.size
 go_wp2_with fail
 refine(uC base v1 _ (k.size-n) _ aX (by omega) (by simp;omega) (by omega)).mono ?_
 rintro E w2 ⟨v2,rfl,aP,au,kp2⟩
 have hb2:=au.size
 have hl2:(zs++Vm.enc n++Vm.enc (k.size-n)).length≤140737488354100:=by rw[List.length_append,List.length_append];omega
 go_wp2_with (at_builtin;refine oM rfl (.tmp 16) (.tmp 19) 61 9 rfl 5 base Tryz.underlying61 Tryz.underlying9 Tryz.info5 _ _ rfl aP _ rfl ?q1 (by omega) ?_)
 case q1=>simp;simp at hl2;omega
 intro v3 w3 bD aD kp3
 go_wp2
 go_ret
 exact⟨_,rfl,bD,(aj.trans au).trans aD,(kp1.trans kp2).trans kp3⟩
theorem Tryz.ach:∀args w,(callFunc 243 args).run Tryz.prog w=.ok (.enter 243 args) w:=enters_of Tryz.func243 (by kernel_rfl) rfl
theorem xC {P:Program}{ops:Array Oper}{o:Oper}{a:Act}{w:World}{K:Act→World→Prop}{Q:Exit→Act→World→Prop}{E:Prop}(hgd:o.guard=none)(f:FuncId)(args:Array Operand)(ts:Array TypeId)
  (ho:o.op=.call {callee:=.value (.func f),args:=args,argTypes:=ts}) (hent:∀args w,(callFunc f args).run P w=.ok (.enter f args) w) (vs:Array Value) (hvs:args.map a.eval=vs)
  {R:Value→World→Prop} (hc:Calls P f vs w fun e w'=>∃v,e=.returned v∧R v w') (h:∀v w',R v w'→K (a.put o.dst v) w'):
  if Region.wanted o (yielded ops a.tmps)=true then Oper.wp P o a w K Q else E:=by
 have hw:Region.wanted o (yielded ops a.tmps)=true:=by simp[Region.wanted,hgd]
 rw[if_pos hw]
 unfold Oper.wp
 simp only[execOp,ho,resolve,invoke,Sem.run_bind,hvs]
 simp only[Act.eval,Deferred.ofValue,Sem.run_pure,Result.andThen_ok,Array.empty_append,hent]
 rw[Oper.upon_enter]
 refine hc.mono ?_
 rintro e w' ⟨v,rfl,hr⟩
 exact h v w' hr
theorem apV {ah:List UInt8}{k u:ByteArray}{n:Nat}(hn:Bm.com ah k.data.toList=n):Bm.fQ ah ⟨false,k,u⟩=[0]++(Vm.enc n++(Vm.enc (k.size-n)++Om.ints (k.data.toList.drop n))):=by
 unfold Bm.fQ Bm.mJ Bm.Ov.bit Bm.Ov.kl
 simp only[hn,List.length_drop,←Lib.size_eq]
 rw[if_neg (by simp),if_neg (by simp),Vm.mF (by omega)]
 simp
theorem anJ {ah:List UInt8}{k u:ByteArray}{n:Nat}(hn:Bm.com ah k.data.toList=n):Bm.fQ ah ⟨true,k,u⟩=[1]++(Vm.enc n++(Vm.enc (k.size-n)++Om.ints (k.data.toList.drop n)))++Vm.enc u.size++Om.ints u.data.toList:=by
 unfold Bm.fQ Bm.mJ Bm.Ov.bit Bm.Ov.kl Bm.Ov.vl Om.cnt
 simp only[hn,List.length_drop,←Lib.size_eq]
 rw[if_pos trivial,if_pos trivial,Vm.mF (by omega)]
 simp
theorem apL (base:Nat)(v:Value)(zs:List Int)(o:Bm.Ov)(ah:ByteArray)(w:World)(hv:Own .u8 5 base w v zs)(hb:base≤w.heap.size)(hl:zs.length≤140737488353000)(hah:ah.size≤64)(hc:o.c=0):
  Calls Tryz.prog 234 #[v,xA o.p o.k o.v,.string ah] w fun E w'=>∃v',E=.returned v'∧Own .u8 5 base w' v' (zs++Bm.fQ ah.data.toList o)∧Below base w w'∧bH 5 w w':=by
 obtain⟨p,k,u⟩:=o
 have hh:=Om.jf hc
 have hcl:=Bm.wC ah.data.toList k.data.toList
 simp only[Bm.Ov.kl,Bm.Ov.vl,←Lib.size_eq]at hh hcl
 clear hc
 unfold xA
 simp only
 obtain⟨n,hn⟩:∃n,Bm.com ah.data.toList k.data.toList=n:=⟨_,rfl⟩
 rw[hn]at hcl
 have hnk:=hcl.2.1
 have hk16:=hh.2.1
 have hu32:=hh.2.2.1
 have hz1:(Vm.enc n).length=1:=Vm.iA (by omega)
 have hz2:(Vm.enc (k.size-n)).length=1:=Vm.iA (by omega)
 have hz3:(Vm.enc u.size).length=1:=Vm.iA (by omega)
 have hz4:(Om.ints (k.data.toList.drop n)).length≤16:=by rw[Om.iR,List.length_drop,←Lib.size_eq];omega
 obtain⟨w0,hw0,qm,dE,afX⟩:=ak w #[.bool p,.string k,.string u] 111
 have c0:=ai afX 0 rfl
 have c1:=ai afX 1 rfl
 have c2:=ai afX 2 rfl
 have HN:=hide hn
 have HB:=hide afX
 clear hn hh afX hcl
 cases p
 ·rw[apV HN.out]
  go_enter Tryz.func234,Tryz.ntmps234
  go_wp2_with fail
  refine(uR ah k _ (by omega) (by omega)).mono ?_
  rintro E w1 ⟨rfl,aj⟩
  rw[HN.out]
  have aT:=aj.size
  have d0:=(aj.cell (p:=⟨w.heap.size,0,none⟩) (by simp[qm])).trans c0
  have d1:=(aj.cell (p:=⟨w.heap.size,1,none⟩) (by simp[qm])).trans c1
  have B1:=hide ((aj.block w.heap.size (by omega)).trans HB.out)
  have uI:Below w.heap.size w w1:=dE.trans (aj.mono dE.size)
  have hv1:=hv.below uI
  clear c0 c1 c2 HB dE aj hw0
  obtain⟨w2,hw2,dz,au,aP⟩:=lF .u8 5 w1 #[.int .u8 0] 1 [0] rfl rfl (by simp[maxLen]) (by simp[wf_u8])
  have e0:=(au.cell (p:=⟨w.heap.size,0,none⟩) (by simp;omega)).trans d0
  have e1:=(au.cell (p:=⟨w.heap.size,1,none⟩) (by simp;omega)).trans d1
  have B2:=hide ((au.block w.heap.size (by omega)).trans B1.out)
  have i1:=fun m=>(hv1.below au).drewN m
  have i2:=fun m=>aP.is.drewN m
  have HZ:=hide hl
  go_wp2_with fail
  go_region_law (first
   |(refine tF rfl (.tmp 15) (.tmp 16) 61 rfl .u8 5 base 1 Tryz.underlying61 Tryz.info5 (by decide) _ zs (by simp[Act.eval]) (i1 1) _ [0] (by simp[Act.eval]) (i2 1) (by simp;omega) (by simp;omega) ?_;intro v3 w3 bD aD yY;have B3:=bH.aQ (i1 1) yY _ _ _ _ B2.out (by decide);have f0:=ai B3 0 rfl;have f1:=ai B3 1 rfl;have f2:=ai B3 2 rfl;replace B3:=hide B3)
   |(refine xC rfl 243 #[.tmp 17,.tmp 19,.tmp 20] #[61,9,3] rfl Tryz.ach #[v3,.string k,.int .i64 n] (by simp[Act.eval]) ((aeE base v3 _ k n _ bD (by have:=aD.size;simp at this;omega) (by simp;omega) (by omega) hnk).mono (by rintro E w' ⟨v',rfl,h⟩;exact⟨v',rfl,h⟩)) ?_;rintro v4 w4 ⟨aW,aK,rM⟩))
  all_goals
   have aZ:Below base w w4:=(((uI.mono hb).trans (au.mono (by omega))).trans ((Below.refl _ _).drew.trans aD)).trans aK
   have kp5:bH 5 w w4:=((((bH.of_below uI).trans (bH.of_below au)).trans (bH.of_below (below_drewN (Below.refl w2.heap.size w2) 1))).trans (bH.aQ (i1 1) yY)).trans rM
   have dw:Own .u8 5 base w4 v4 (zs++0::(Vm.enc n++(Vm.enc (k.size-n)++Om.ints (List.drop n k.data.toList)))):=by simpa using aW
   clear i1 i2 aW bD yY aD aK rM f0 f1 f2 e0 e1 d0 d1 B1 B2 B3
   go_wp2
   go_ret
   exact⟨_,rfl,dw,aZ,kp5⟩
 ·rw[anJ HN.out]
  go_enter Tryz.func234,Tryz.ntmps234
  go_wp2_with fail
  refine(uR ah k _ (by omega) (by omega)).mono ?_
  rintro E w1 ⟨rfl,aj⟩
  rw[HN.out]
  have aT:=aj.size
  have d0:=(aj.cell (p:=⟨w.heap.size,0,none⟩) (by simp[qm])).trans c0
  have d1:=(aj.cell (p:=⟨w.heap.size,1,none⟩) (by simp[qm])).trans c1
  have B1:=hide ((aj.block w.heap.size (by omega)).trans HB.out)
  have uI:Below w.heap.size w w1:=dE.trans (aj.mono dE.size)
  have hv1:=hv.below uI
  clear c0 c1 c2 HB dE aj hw0
  obtain⟨w2,hw2,dz,au,aP⟩:=lF .u8 5 w1 #[.int .u8 1] 1 [1] rfl rfl (by simp[maxLen]) (by simp[wf_u8])
  have e0:=(au.cell (p:=⟨w.heap.size,0,none⟩) (by simp;omega)).trans d0
  have e1:=(au.cell (p:=⟨w.heap.size,1,none⟩) (by simp;omega)).trans d1
  have B2:=hide ((au.block w.heap.size (by omega)).trans B1.out)
  have i1:=fun m=>(hv1.below au).drewN m
  have i2:=fun m=>aP.is.drewN m
  have HZ:=hide hl
  go_wp2_with fail
  go_region_law (first
   |(refine tF rfl (.tmp 22) (.tmp 23) 61 rfl .u8 5 base 1 Tryz.underlying61 Tryz.info5 (by decide) _ zs (by simp[Act.eval]) (i1 1) _ [1] (by simp[Act.eval]) (i2 1) (by simp;omega) (by simp;omega) ?_;intro v3 w3 bD aD yY;have B3:=bH.aQ (i1 1) yY _ _ _ _ B2.out (by decide);have f0:=ai B3 0 rfl;have f1:=ai B3 1 rfl;have f2:=ai B3 2 rfl;replace B3:=hide B3)
   |(refine xC rfl 243 #[.tmp 24,.tmp 26,.tmp 27] #[61,9,3] rfl Tryz.ach #[v3,.string k,.int .i64 n] (by simp[Act.eval]) ((aeE base v3 _ k n _ bD (by have:=aD.size;simp at this;omega) (by simp;omega) (by omega) hnk).mono (by rintro E w' ⟨v',rfl,h⟩;exact⟨v',rfl,h⟩)) ?_;rintro v4 w4 ⟨aW,aK,rM⟩))
  all_goals
   have aZ:Below base w w4:=(((uI.mono hb).trans (au.mono (by omega))).trans ((Below.refl _ _).drew.trans aD)).trans aK
   have kp5:bH 5 w w4:=((((bH.of_below uI).trans (bH.of_below au)).trans (bH.of_below (below_drewN (Below.refl w2.heap.size w2) 1))).trans (bH.aQ (i1 1) yY)).trans rM
   have B4:=rM _ _ _ _ B3.out (by decide)
   have g2:=ai B4 2 rfl
   have lZ:=aZ.size
   replace B4:=hide B4
   have hl5:(zs++[1]++(Vm.enc n++(Vm.enc (k.size-n)++Om.ints (List.drop n k.data.toList)))).length≤140737488353100:=by simp only[List.length_append,List.length_cons,List.length_nil];omega
   generalize hz5:zs++[1]++(Vm.enc n++(Vm.enc (k.size-n)++Om.ints (List.drop n k.data.toList)))=z5 at*
   have HZ5:=hide hz5
   clear hz5 i1 i2 bD yY aD aK rM f0 f1 f2 e0 e1 d0 d1 B1 B2 B3
   go_wp2_with fail
   refine(uC base v4 z5 u.size _ aW (by omega) (by omega) (by omega)).mono ?_
   rintro E w6 ⟨v6,rfl,eT,eB,kp6⟩
   have mY:=eB.size
   have g3:=ai (kp6 _ _ _ _ B4.out (by decide)) 2 rfl
   go_wp2_with (at_builtin;refine oM rfl (.tmp 34) (.tmp 36) 61 9 rfl 5 base Tryz.underlying61 Tryz.underlying9 Tryz.info5 _ _ rfl eT u rfl ?q1 (by omega) ?_)
   case q1=>simp only[List.length_append];omega
   intro v7 w7 je iV kp7
   have pE:Own .u8 5 base w7 v7 (zs++([1]++(Vm.enc n++(Vm.enc (k.size-n)++Om.ints (List.drop n k.data.toList)))++Vm.enc u.size++Om.ints u.data.toList)):=by
    rw[←HZ5.out]at je
    simpa using je
   clear je eT aW
   go_wp2
   go_ret
   exact⟨_,rfl,by simpa using pE,(aZ.trans eB).trans iV,(kp5.trans kp6).trans kp7⟩
theorem ae4 {l:List Bm.Ov}{k:Nat}{o:Bm.Ov}(ho:l[k]? =some o):l.take (k+1)=l.take k++[o]:=by
 obtain⟨hk,rfl⟩:=List.getElem?_eq_some_iff.1 ho
 exact List.take_succ_eq_append_getElem hk
theorem aj0 {l:List Bm.Ov}{k:Nat}{o:Bm.Ov}(ho:l[k]? =some o):Bm.eY [] (l.take (k+1))=Bm.eY [] (l.take k)++Bm.fQ (Bm.dH [] (l.take k)) o:=by
 rw[ae4 ho,Bm.rJ]
theorem aiF {l:List Bm.Ov}(hc:Bm.dY l=0)(k:Nat):(Bm.eY [] (l.take k)).length≤420:=by
 obtain⟨h1,h2,h3⟩:=Bm.dO hc
 have h4:∀o∈l.take k,Bm.Ov.c o=0:=fun o ho=>h3 o (List.mem_of_mem_take ho)
 have:=Bm.ab2 [] (l.take k) h4
 have:=Bm.aea h4
 have:(l.take k).length≤8:=by rw[List.length_take];omega
 omega
theorem apU (vb:Value)(bs:List Int)(vl:Value)(l:List Bm.Ov)(w:World)(hb:Is .u8 w vb bs)(hl:bs.length≤140737488351700)(h:dh w vl l)(hf:iL l)(hll:l.length≤140737488355328):
  Calls Tryz.prog 213 #[vb,vl] w fun E w'=>∃v',E=.returned (.tuple #[v',.int .i64 (Bm.dY l)])∧Own .u8 5 w.heap.size w' v' (Bm.aeJ bs l)∧Below w.heap.size w w':=by
 by_cases hc:Bm.dY l=0
 ·rw[hc,Bm.ahI hc]
  obtain⟨h1,h8,h3⟩:=Bm.dO hc
  obtain⟨b1,o1,c1,rfl,_,_,hB,hcell⟩:=h.full (by omega)
  have HC:=hide hc
  have HL:=hide hcell
  have H3:=hide h3
  have HE:=hide (aiF hc)
  have hz1:(Vm.enc l.length).length=1:=Vm.iA (by omega)
  have hlen:(l.length:Int)≤8:=by omega
  clear hc hcell h3
  go_enter Tryz.func213,Tryz.ntmps213
  go_wp2_with fail
  refine(mg _ l _ h hf hll).mono ?_
  rintro E w1 ⟨rfl,aj⟩
  rw[HC.out]
  have aT:=aj.size
  have hb1:=hb.below aj
  go_wp2_with fail
  refine(ala _ bs _ hb1 (by omega)).mono ?_
  rintro E w2 ⟨v2,rfl,aP,au⟩
  have dz:=au.size
  replace aP:=aP.bu aT
  go_wp2_with fail
  refine(uC w.heap.size v2 bs l.length _ aP (by omega) (by omega) (by omega)).mono ?_
  rintro E w3 ⟨v3,rfl,bD,aD,_⟩
  have cB:=aD.size
  have aY:Below w.heap.size w w3:=(aj.trans (au.mono aT)).trans aD
  clear aP aj au aD hb1
  go_wp2
  go_loopw [7,8,24] (fun ov av i wr=>∃(k:Nat) (ah:ByteArray),k≤l.length∧i=.int .i64 k∧av=.string ah∧Hid (ah.data.toList=Bm.dH [] (l.take k))∧ah.size≤64∧Own .u8 5 w.heap.size wr ov (bs++Vm.enc l.length++Bm.eY [] (l.take k))∧Below w.heap.size w wr) (fun _ _ i _=>l.length-(intOf i).toNat)
  case atStart=>exact⟨0,⟨#[]⟩,by omega,rfl,rfl,hide rfl,by simp[ByteArray.size],by simpa[Bm.eY]using bD,aY⟩
  case round=>
   obtain⟨k,ah,hk,rfl,rfl,HA,hah,own,aF⟩:=hrel
   have sz:=aF.size
   by_cases hlt:k<l.length
   ·obtain⟨o,ho⟩:∃o,l[k]? =some o:=⟨l[k],by rw[List.getElem?_eq_getElem]⟩
    obtain⟨c0,c1,c2⟩:=HL.out k o ho
    have d0:=(aF.cell (p:=⟨b1,o1+k*3,none⟩) hB).trans c0
    have d1:=(aF.cell (p:=⟨b1,o1+k*3+1,none⟩) hB).trans c1
    have d2:=(aF.cell (p:=⟨b1,o1+k*3+2,none⟩) hB).trans c2
    have HO:=hide ho
    have hoc:=H3.out o (List.mem_of_getElem? ho)
    have pq:o.k.size≤64:=by have:=(Om.jf hoc).2.1;simp only[Bm.Ov.kl,←Lib.size_eq]at this;omega
    have hel:=HE.out k
    have e5:bs++Vm.enc l.length++Bm.eY [] (l.take k)++Bm.fQ ah.data.toList o=bs++Vm.enc l.length++Bm.eY [] (l.take (k+1)):=by rw[aj0 ho,HA.out,←List.append_assoc]
    have HA2:Hid (o.k.data.toList=Bm.dH [] (l.take (k+1))):=hide (by rw[ae4 ho,Bm.jE];rfl)
    have hlz:(bs++Vm.enc l.length++Bm.eY [] (l.take k)).length≤140737488353000:=by simp only[List.length_append];omega
    generalize bs++Vm.enc l.length++Bm.eY [] (l.take k)=zs at*
    have E5:=hide e5
    clear c0 c1 c2 ho e5
    have hlt':(k:Int)<l.length:=by omega
    obtain⟨w4,hw4,lZ,aK,aeN⟩:=ak wr #[.bool o.p,.string o.k,.string o.v] 111
    have f0:=ai aeN 0 rfl
    have f1:=ai aeN 1 rfl
    have f2:=ai aeN 2 rfl
    have B4:=hide aeN
    clear aeN
    go_wp2_with fail
    refine(apL w.heap.size _ zs o ah _ (own.below aK) (by omega) (by omega) hah hoc).mono ?_
    rintro E w5 ⟨v5,rfl,dw,aZ,kp5⟩
    rw[E5.out]at dw
    have B5:=kp5 _ _ _ _ B4.out (by decide)
    have g1:=ai B5 1 rfl
    have eB:Below w.heap.size w w5:=(aF.trans (aK.mono sz)).trans aZ
    clear own aK aZ kp5 B5 d0 d1 d2 f0 f1 f2 hel hlz
    go_wp2
    go_roundw
    case rel=>exact⟨k+1,o.k,by omega,by go_num,rfl,HA2,pq,dw,eB⟩
    case measure=>simp[intOf];omega
   ·have hlt':¬(k:Int)<l.length:=by omega
    rw[List.take_of_length_le (by omega),List.append_assoc]at own
    go_wp2
    go_ret2
    exact⟨_,rfl,own,aF⟩
 ·rw[Bm.ar7 hc]
  obtain⟨c,hcc⟩:∃c,Bm.dY l=c:=⟨_,rfl⟩
  have h0:(c !=0)=true:=by rw[←hcc];simpa using hc
  obtain⟨ao,cp,rfl,_,_⟩:=hb.shape
  rw[hcc]
  have HC:=hide hcc
  clear hc hcc
  go_enter Tryz.func213,Tryz.ntmps213
  go_wp2_with fail
  refine(mg _ l _ h hf hll).mono ?_
  rintro E w1 ⟨rfl,aj⟩
  rw[HC.out]
  go_wp2
  go_ret2
  exact⟨_,rfl,Own.nil _ _ _ _,aj⟩
theorem bg.aaL {e base g:Nat}{w w':World}{v:Value}{l:List Bm.Ov}(h:bg e base w v l)(hg:w.grownBy w' (some g))(hb:g<base):bg e base w' v l:=by
 refine h.kept hg ?_
 cases hv:v.ownBlock with
 |none=>exact .inl rfl
 |some b=>
  refine .inr fun e=>?_
  have:=h.block b hv
  simp at e
  omega
theorem aiy (vl:Value)(l:List Bm.Ov)(w:World)(h:dh w vl l)(hl:l.length*40≤140737488351232):
  Calls Tryz.prog 89 #[vl] w fun e w'=>∃v,e=.returned v∧bg 111 w.heap.size w' v l∧Below w.heap.size w w':=by
 have q:∀(w:World) (a:Option Addr) (n c n' c':Nat),(binOp .eql 33 (.slice a n c) (.slice none n' c')).run Tryz.prog w=.ok (.bool a.isNone) w:=fun w a n c n' c'=>Lib.run_eql_slice_nil w _ _ a n c n' c' Tryz.underlying33
 by_cases hn:vl=.slice none 0 0
 ·subst hn
  have:l=[]:=by
   rcases h with⟨_,h⟩|⟨ad,cap,h,_⟩
   ·exact h
   ·simp at h
  subst this
  clear h hl
  go_enter Tryz.func89,Tryz.ntmps89
  go_wp2
  go_ret
  exact⟨_,rfl,bg.nil _ _ _,Below.refl _ _⟩
 ·obtain⟨ad,cap,rfl⟩:∃ad cap,vl=.slice (some ad) l.length cap:=by
   rcases h with⟨h,_⟩|⟨ad,cap,h,_⟩
   ·exact absurd h hn
   ·exact⟨ad,cap,h⟩
  clear hn
  obtain⟨w1,hw1,aT,aj,aX⟩:=zY 111 w #[] 0 [] rfl rfl (by simp[maxLen])
  have h1:=h.below aj
  go_enter Tryz.func89,Tryz.ntmps89
  go_wp2_with (at_builtin;refine pK rfl (.tmp 5) (.tmp 6) 33 rfl 111 w.heap.size Tryz.underlying33 Tryz.ab8 _ [] rfl aX _ l rfl h1 (by simp;omega) (by omega) ?_)
  intro v2 w2 aP au _
  go_wp2
  go_ret
  exact⟨_,rfl,by simpa using aP,aj.trans au⟩
end Go.Proofs.YtmngcecomcadkaaGreatDoor
