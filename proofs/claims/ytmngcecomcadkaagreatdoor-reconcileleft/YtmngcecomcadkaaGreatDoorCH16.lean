/- Texts of one layer, one behind the other. -/
import Derived.Test.YtmngcecomcadkaaGreatDoorCG3
import Derived.Test.YtmngcecomcadkaaGreatDoorCH6
import Derived.Test.YtmngcecomcadkaaGreatDoorCH10
import Derived.Test.YtmngcecomcadkaaGreatDoorCH15
import Derived.Test.YtmngcecomcadkaaGreatDoorCH4
import Derived.BigQuiet
import Derived.Test.YtmngcecomcadkaaGreatDoorCH3
import Derived.Deep.RegionLaw
import Derived.Deep.RegionHeld3
import Derived.Test.YtmngcecomcadkaaGreatDoorCH8
set_option maxRecDepth 100000
set_option maxHeartbeats 8000000
namespace Go.Proofs.YtmngcecomcadkaaGreatDoor
open Go.RowKit
set_option linter.unusedVariables false
def ends (l:List Cm.Cv):List Int:=(List.range l.length).map fun i=>((Wl.aR (l.take (i+1))).length:Int)
theorem nH (l:List Cm.Cv):(ends l).length=l.length:=by simp[ends]
theorem asG (l:List Cm.Cv)(i:Nat)(hi:i<l.length):(ends l).getD i 0=(Wl.aR (l.take (i+1))).length:=by
 simp[ends,List.getD_eq_getElem?_getD,hi]
theorem alz (l:List Cm.Cv)(c:Cm.Cv):ends (l++[c])=ends l++[((Wl.aR (l++[c])).length:Int)]:=by
 unfold ends
 rw[List.length_append,List.length_singleton,List.range_succ,List.map_append]
 congr 1
 ·apply List.map_congr_left
  intro i hi
  rw[List.mem_range]at hi
  rw[List.take_append_of_le_length (by omega)]
 ·rw[List.map_singleton,List.take_of_length_le (by simp)]
theorem ajy (l:List Cm.Cv)(k:Nat)(hk:k≤l.length):ends (l.take k)=(ends l).take k:=by
 unfold ends
 rw[List.length_take,←List.map_take,List.take_range,show min k l.length=k by omega]
 apply List.map_congr_left
 intro i hi
 rw[List.mem_range]at hi
 rw[List.take_take,show min (i+1) k=i+1 by omega]
theorem eO {l:List Cm.Cv}(h:Cm.Good 0 0 l):l.length≤1048576:=by
 rcases List.eq_nil_or_concat l with rfl|⟨r,c,rfl⟩
 ·simp
 ·have hk:(r.concat c)[r.length]? =some c:=by rw[List.concat_eq_append];simp
  obtain⟨h1,h2,_⟩:=Cm.nI (r.concat c) 0 0 r.length c h hk
  have:=Cm.aO h1
  rw[List.concat_eq_append,List.length_append,List.length_singleton]
  omega
theorem vW {l:List Cm.Cv}(h:Cm.Good 0 0 l):(Wl.aR l).length≤454033408:=by
 have h1:=Wl.ac7 h
 have h2:=eO h
 omega
theorem agk (l:List Cm.Cv)(k:Nat):(Wl.aR (l.take k)).length≤(Wl.aR l).length:=by
 have:Wl.aR l=Wl.aR (l.take k)++Wl.aR (l.drop k):=by rw[←Wl.kL,List.take_append_drop]
 rw[this,List.length_append]
 omega
theorem aem {rs:List Cw}{l:List Cm.Cv}(h:Cm.Good 0 0 l)(he:ay rs=l):dL rs∧∀c∈rs,In64 c.e∧In64 c.n∧c.l.length≤8:=by
 have key:∀c∈rs,Cm.chk c.e c.n c.l=0:=by
  intro c hc
  obtain⟨k,hk⟩:=List.getElem?_of_mem hc
  have:l[k]? =some c.c:=by rw[←he,ay,List.getElem?_map,hk];rfl
  exact(Cm.nI l 0 0 k c.c h this).1
 constructor
 ·intro c hc
  obtain⟨_,_,_,_,h5⟩:=Cm.aO (key c hc)
  have:=(Bm.dO h5).2.1
  exact⟨(nE h5).fit,by omega⟩
 ·intro c hc
  obtain⟨h1,h2,h3,h4,h5⟩:=Cm.aO (key c hc)
  have:=(Bm.dO h5).2.1
  exact⟨⟨by omega,by omega⟩,⟨by omega,by omega⟩,this⟩
structure Lr (base:Nat) (w:World) (vc ve:Value) (rs:List Cw) (zs:List Int):Prop where
 row:bn 35 base w vc rs
 kN:dR base w rs
 en:Own .i64 3 base w ve zs
structure Lw (base:Nat) (w:World) (l:List Cm.Cv) (vc ve:Value) (rs:List Cw):Prop where
 r:Lr base w vc ve rs (ends l)
 is:ay rs=l
 good:Cm.Good 0 0 l
def LB (vc ve:Value) (rs:List Cw) (g:Nat):Prop:=vc.ownBlock=some g∨ve.ownBlock=some g∨∃c∈rs,c.v.ownBlock=some g
section
variable {base base':Nat} {w w':World} {l:List Cm.Cv} {vc ve:Value} {rs:List Cw} {F G:Nat→Prop}
theorem Lr.nil (base:Nat)(w:World):Lr base w (.slice none 0 0) (.slice none 0 0) [] []:=⟨bn.nil _ _ _,fun c hc=>by simp at hc,Own.nil _ _ _ _⟩
theorem Lw.nil (base:Nat)(w:World):Lw base w [] (.slice none 0 0) (.slice none 0 0) []:=⟨Lr.nil _ _,rfl,trivial⟩
theorem Lr.ty {zs:List Int}(h:Lr base w vc ve rs zs):∀g,LB vc ve rs g→∃cs t,w.heap[g]? =some (.cells cs t (0,0))∧(t=35∨t=3∨t=111):=by
 rintro g (hb|hb|⟨c,hc,hb⟩)
 ·obtain⟨cs,e⟩:=h.row.type hb
  exact⟨_,_,e,.inl rfl⟩
 ·obtain⟨cs,e⟩:=h.en.type hb
  exact⟨_,_,e,.inr (.inl rfl)⟩
 ·obtain⟨cs,e⟩:=(h.kN c hc).type hb
  exact⟨_,_,e,.inr (.inr rfl)⟩
theorem Lr.lt {zs:List Int}(h:Lr base w vc ve rs zs):∀g,LB vc ve rs g→g<w.heap.size:=fun g hg=>by
 obtain⟨cs,t,e,_⟩:=h.ty g hg
 exact ax e
theorem Lr.agree {zs:List Int}(h:Lr base w vc ve rs zs)(ha:∀g,LB vc ve rs g→w'.heap[g]? =w.heap[g]?):Lr base w' vc ve rs zs:=
 ⟨bN h.row fun b hb=>ha b (.inl hb),fun c hc=>bN (h.kN c hc) fun b hb=>ha b (.inr (.inr ⟨c,hc,hb⟩)),h.en.agree fun b hb=>ha b (.inr (.inl hb))⟩
theorem Lr.below {zs:List Int}(h:Lr base w vc ve rs zs)(hb:Below w.heap.size w w'):Lr base w' vc ve rs zs:=h.agree fun g hg=>hb.block g (h.lt g hg)
theorem Lr.ne {zs:List Int}(h:Lr base w vc ve rs zs){b:Nat}{cs:Array Value}{t:TypeId}{fr:Nat×Nat}(hb:w.heap[b]? =some (.cells cs t fr))(h1:t≠35)(h2:t≠3)(h3:t≠111):¬LB vc ve rs b:=by
 intro hg
 obtain⟨cs',t',e,ht⟩:=h.ty b hg
 rw[hb]at e
 simp only[Option.some.injEq,Obj.cells.injEq]at e
 obtain⟨_,e2,_⟩:=e
 subst e2
 rcases ht with e|e|e
 ·exact h1 e
 ·exact h2 e
 ·exact h3 e
theorem Lw.ty (h:Lw base w l vc ve rs):∀g,LB vc ve rs g→∃cs t,w.heap[g]? =some (.cells cs t (0,0))∧(t=35∨t=3∨t=111):=h.r.ty
theorem Lw.lt (h:Lw base w l vc ve rs):∀g,LB vc ve rs g→g<w.heap.size:=h.r.lt
theorem Lw.agree (h:Lw base w l vc ve rs)(ha:∀g,LB vc ve rs g→w'.heap[g]? =w.heap[g]?):Lw base w' l vc ve rs:=⟨h.r.agree ha,h.is,h.good⟩
theorem Lw.below (h:Lw base w l vc ve rs)(hb:Below w.heap.size w w'):Lw base w' l vc ve rs:=⟨h.r.below hb,h.is,h.good⟩
theorem Lw.len (h:Lw base w l vc ve rs):rs.length=l.length:=by rw[←h.is,ay,List.length_map]
structure zl (p q:Nat) (w:World) (l:List Cm.Cv) (bk:Bool) (vc ve:Value) (rs:List Cw):Prop where
 blk:w.heap[p]? =some (.cells #[.pointer (some ⟨q,0,none⟩),.bool bk,vc,ve] 137 (0,0))
 log:Lw 0 w l vc ve rs
def Wk (p q:Nat) (G:Nat→Prop) (w:World) (l:List Cm.Cv) (bk:Bool):Prop:=∃vc ve rs,zl p q w l bk vc ve rs∧G=fun g=>g=p∨LB vc ve rs g
theorem zl.ty {p q:Nat}{bk:Bool}(h:zl p q w l bk vc ve rs):∀g,g=p∨LB vc ve rs g→∃cs t,w.heap[g]? =some (.cells cs t (0,0))∧(t=137∨t=35∨t=3∨t=111):=by
 rintro g (rfl|hg)
 ·exact⟨_,_,h.blk,.inl rfl⟩
 ·obtain⟨cs,t,e,ht⟩:=h.log.ty g hg
  exact⟨cs,t,e,.inr ht⟩
theorem Wk.ty {p q:Nat}{bk:Bool}(h:Wk p q G w l bk):∀g,G g→∃cs t,w.heap[g]? =some (.cells cs t (0,0))∧(t=137∨t=35∨t=3∨t=111):=by
 obtain⟨vc,ve,rs,h,rfl⟩:=h
 exact h.ty
theorem Wk.lt {p q:Nat}{bk:Bool}(h:Wk p q G w l bk):∀g,G g→g<w.heap.size:=fun g hg=>by
 obtain⟨cs,t,e,_⟩:=h.ty g hg
 exact ax e
theorem Wk.agree {p q:Nat}{bk:Bool}(h:Wk p q G w l bk)(ha:∀g,G g→w'.heap[g]? =w.heap[g]?):Wk p q G w' l bk:=by
 obtain⟨vc,ve,rs,h,rfl⟩:=h
 exact⟨vc,ve,rs,⟨(ha p (.inl rfl)).trans h.blk,h.log.agree fun g hg=>ha g (.inr hg)⟩,rfl⟩
theorem Wk.below {p q:Nat}{bk:Bool}(h:Wk p q G w l bk)(hb:Below w.heap.size w w'):Wk p q G w' l bk:=h.agree fun g hg=>hb.block g (h.lt g hg)
theorem Wk.out {p q:Nat}{bk:Bool}(h:Wk p q G w l bk)(ho:Out F w w')(hd:∀g,G g→¬F g):Wk p q G w' l bk:=h.agree fun g hg=>ho.block g (h.lt g hg) (hd g hg)
theorem Wk.good {p q:Nat}{bk:Bool}(h:Wk p q G w l bk):Cm.Good 0 0 l:=by
 obtain⟨vc,ve,rs,h,rfl⟩:=h
 exact h.log.good
theorem uA {p q q':Nat}{bk:Bool}{st:Dm.Ds}(h:Wk p q G w l bk)(k:Pk q' F w st):∀g,G g→¬F g:=by
 intro g hg hf
 obtain⟨cs,t,e,ht⟩:=h.ty g hg
 obtain⟨cs',t',fr,e',ht'⟩:=k.ty g hf
 rw[e]at e'
 simp only[Option.some.injEq,Obj.cells.injEq]at e'
 obtain⟨_,e2,_⟩:=e'
 subst e2
 rcases ht with rfl|rfl|rfl|rfl<;>rcases ht' with e|e|e<;>exact absurd e (by decide)
end
def WW (p q:Nat) (F:Nat→Prop) (w:World) (s:Wl.Ws):Prop:=∃F1 G1,Pk q F1 w s.d∧Wk p q G1 w s.l s.bk∧F=fun g=>F1 g∨G1 g
def dD (p q:Nat) (F:Nat→Prop) (w w':World) (s':Wl.Ws):Prop:=∃F',WW p q F' w' s'∧Out F w w'∧∀g,F' g→F g∨w.heap.size≤g
section
variable {p q:Nat} {F G:Nat→Prop} {w w' w1 w2:World} {s s':Wl.Ws} {st':Dm.Ds}
theorem WW.lt (h:WW p q F w s):∀g,F g→g<w.heap.size:=by
 obtain⟨F1,G1,h1,h2,rfl⟩:=h
 rintro g (hg|hg)
 ·exact h1.lt g hg
 ·exact h2.lt g hg
theorem WW.agree (h:WW p q F w s)(ha:∀g,F g→w'.heap[g]? =w.heap[g]?):WW p q F w' s:=by
 obtain⟨F1,G1,h1,h2,rfl⟩:=h
 exact⟨F1,G1,h1.agree fun g hg=>ha g (.inl hg),h2.agree fun g hg=>ha g (.inr hg),rfl⟩
theorem WW.below (h:WW p q F w s)(hb:Below w.heap.size w w'):WW p q F w' s:=h.agree fun g hg=>hb.block g (h.lt g hg)
theorem WW.out (h:WW p q F w s)(ho:Out G w w')(hd:∀g,F g→¬G g):WW p q F w' s:=h.agree fun g hg=>ho.block g (h.lt g hg) (hd g hg)
theorem WW.good (h:WW p q F w s):Cm.Good 0 0 s.l:=by
 obtain⟨F1,G1,h1,h2,rfl⟩:=h
 exact h2.good
theorem dD.trans {F1:Nat→Prop}(ho:Out F w w1)(hs:∀g,F1 g→F g∨w.heap.size≤g)(k:dD p q F1 w1 w2 s'):dD p q F w w2 s':=by
 obtain⟨F2,h1,h2,h3⟩:=k
 refine⟨F2,h1,ho.trans h2 hs,fun g hg=>?_⟩
 rcases h3 g hg with h|h
 ·exact hs g h
 ·exact .inr (Nat.le_trans ho.size h)
theorem dD.same (h:WW p q F w s)(hb:Below w.heap.size w w'):dD p q F w w' s:=⟨F,h.below hb,Out.of_below hb,fun g hg=>.inl hg⟩
theorem dD.pre (hb:Below w.heap.size w w1)(h:dD p q F w1 w2 s'):dD p q F w w2 s':=h.trans (Out.of_below hb) fun g hg=>.inl hg
theorem WW.disk {F1 G1:Nat→Prop}{l:List Cm.Cv}{bk:Bool}(h1:Pk q F1 w s.d)(h2:Wk p q G1 w l bk)(k:aV q F1 w w' st'):
  ∃F2,Pk q F2 w' st'∧Wk p q G1 w' l bk∧Out F1 w w'∧∀g,F2 g→F1 g∨w.heap.size≤g:=by
 obtain⟨F2,k1,k2,k3⟩:=k
 exact⟨F2,k1,h2.out k2 (uA h2 h1),k2,k3⟩
end
theorem jC (b o:Nat)(w:World)(vc:Value)(rs:List Cw)(hc:w.cell? ⟨b,o,none⟩=some vc)(h:fu w vc rs):
  Calls Tryz.prog 87 #[.pointer (some ⟨b,o,none⟩)] w fun E w'=>E=.returned (.int .i64 rs.length)∧w=w':=by
 obtain⟨ao,cap,rfl,_,_⟩:=h.shape
 clear h
 go_enter Tryz.func87,Tryz.ntmps87
 go_wp2
 go_ret
 exact⟨rfl,rfl⟩
theorem ahe {l:List Cm.Cv}{k:Nat}{c:Cm.Cv}(hk:l[k]? =some c)(hl:l.length=k+1)(e:Int):Cm.lastE e l=c.e:=by
 rcases List.eq_nil_or_concat l with rfl|⟨r,d,rfl⟩
 ·simp at hk
 ·rw[List.concat_eq_append]at hk hl⊢
  rw[List.length_append,List.length_singleton]at hl
  obtain rfl:r.length=k:=by omega
  rw[(Cm.iE r d e 0).1]
  simp at hk
  rw[hk]
theorem aaq (b o:Nat)(w:World)(vc:Value)(rs:List Cw)(hc:w.cell? ⟨b,o,none⟩=some vc)(h:fu w vc rs)(hl:rs.length≤1048576):
  Calls Tryz.prog 112 #[.pointer (some ⟨b,o,none⟩)] w fun E w'=>E=.returned (.int .i64 (Cm.lastE 0 (ay rs)))∧∃m,w'=w.drewN m:=by
 have HE:=hide (jC b o w vc rs hc h)
 by_cases h0:rs.length=0
 ·have hr:rs=[]:=List.eq_nil_of_length_eq_zero h0
  subst hr
  clear h
  go_enter Tryz.func112,Tryz.ntmps112
  go_wp2_with fail
  refine HE.out.mono ?_
  rintro E w1 ⟨rfl,rfl⟩
  go_wp2
  go_ret
  exact⟨rfl,0,rfl⟩
 ·obtain⟨k,hk⟩:∃k,rs.length=k+1:=⟨rs.length-1,by omega⟩
  have HEq:Hid (∀n,Calls Tryz.prog 87 #[.pointer (some ⟨b,o,none⟩)] (w.drewN n) fun E w'=>E=.returned (.int .i64 rs.length)∧∃m,w'=(w.drewN n).drewN m):=hide fun n=>
   (jC b o (w.drewN n) vc rs hc (h.below (below_drewN (Below.refl _ _) n))).mono fun E w' h=>⟨h.1,0,by rw[←h.2];rfl⟩
  obtain⟨g,off,cap,rfl,_,_,_,hcell⟩:=h.full (by omega)
  obtain⟨c,hck⟩:∃c,rs[k]? =some c:=⟨rs[k]'(by omega),by rw[List.getElem?_eq_getElem]⟩
  obtain⟨c0,_,_⟩:=hcell k c hck
  have hL:Cm.lastE 0 (ay rs)=c.e:=ahe (k:=k) (c:=c.c) (by unfold ay;rw[List.getElem?_map,hck];rfl) (by unfold ay;rw[List.length_map];exact hk) 0
  rw[hL]
  rw[hk]at HE HEq hc
  have hne:(((k+1:Nat):Int)==0)=false:=by simp;omega
  have hw:IntKind.i64.wrap (((k+1:Nat):Int)-1)=(k:Int):=by rw[aS _ (by omega) (by omega)];omega
  have hk1:(k:Int)<((k+1:Nat):Int):=by omega
  clear h hcell hck hL
  go_enter Tryz.func112,Tryz.ntmps112
  go_wp2_with fail
  refine HE.out.mono ?_
  rintro E w1 ⟨rfl,rfl⟩
  go_wp2
  go_quiet ((go_at_call 87;refine Calls.quiet_of (HEq.out _)))
  go_wp2
  go_ret
  exact⟨rfl,_,rfl⟩
theorem uY (b o:Nat)(w:World)(ve:Value)(l:List Cm.Cv)(n:Nat)(hn:n≤l.length)(hl:l.length≤1048576)(hc:w.cell? ⟨b,o+1,none⟩=some ve)(h:Is .i64 w ve (ends l)):
  Calls Tryz.prog 187 #[.pointer (some ⟨b,o,none⟩),.int .i64 n] w fun E w'=>E=.returned (.int .i64 (Wl.aR (l.take n)).length)∧w=w':=by
 by_cases h0:n=0
 ·subst h0
  clear h
  go_enter Tryz.func187,Tryz.ntmps187
  go_wp2
  go_ret
  exact⟨rfl,rfl⟩
 ·obtain⟨k,rfl⟩:∃k,n=k+1:=⟨n-1,by omega⟩
  obtain⟨g,off,cap,rfl,_,_,_,hcell⟩:=h.full (by rw[nH];omega)
  have c0:=hcell k (by rw[nH];omega)
  rw[asG l k (by omega)]at c0
  rw[nH]at hc
  have hne:(((k+1:Nat):Int)==0)=false:=by simp;omega
  have hw:IntKind.i64.wrap (((k+1:Nat):Int)-1)=(k:Int):=by rw[aS _ (by omega) (by omega)];omega
  have hk1:(k:Int)<(l.length:Int):=by omega
  generalize ((Wl.aR (List.take (k+1) l)).length:Int)=z at*
  clear h hcell
  go_enter Tryz.func187,Tryz.ntmps187
  go_wp2
  go_ret
  exact⟨rfl,rfl⟩
def tk (l:List Cm.Cv) (c:Cm.Cv):Bool:=decide (Cm.chk c.e c.n c.l=0∧¬(c.n-1≠l.length∨c.e<Cm.lastE 0 l))
theorem auQ (l:List Cm.Cv)(c:Cm.Cv):tk l c=(((Cm.fol (Cm.lastE 0 l) l.length 0 [c]).1==0)&&((Cm.fol (Cm.lastE 0 l) l.length 0 [c]).2==0)):=by
 unfold tk
 by_cases h1:Cm.chk c.e c.n c.l=0
 ·by_cases h2:c.n-1≠l.length∨c.e<Cm.lastE 0 l
  ·rw[Cm.xP h1 h2,decide_eq_false (fun h=>h.2 h2)]
   rfl
  ·rw[Cm.aa6 h1 h2,decide_eq_true ⟨h1,h2⟩]
   rfl
 ·rw[Cm.yn h1,decide_eq_false (fun h=>h1 h.1)]
  simp[h1]
theorem arA {l:List Cm.Cv}(h:Cm.Good 0 0 l)(c:Cm.Cv):tk l c=true↔Cm.Good 0 0 (l++[c]):=by
 unfold tk
 rw[decide_eq_true_iff,Wl.amh h]
theorem Tryz.avm (a b c d:Int)(w:World):(binOp .eql 31 (.agg #[.int .i64 a,.int .i64 b]) (.agg #[.int .i64 c,.int .i64 d])).run Tryz.prog w=.ok (.bool ((a==c)&&(b==d))) w:=by
 rw[run_eql_struct,run_equalIn_agg w 9999 31 _ _ (by kernel_rfl) (by kernel_rfl)]
 unfold Program.fieldsOf
 rw[Tryz.underlying31]
 simp[Op.eqFields,go_sem,Tryz.underlying29,Tryz.underlying3]
 by_cases h1:a=c<;>by_cases h2:b=d<;>simp[h1,h2]
theorem oo (p q:Nat)(w:World)(cs:Array Value)(u1 u2 u3:Value)(hB:w.heap[p]? =some (.cells #[.pointer (some ⟨q,0,none⟩),u1,u2,u3] 137 (0,0))):
  Calls Tryz.prog 86 #[.pointer (some ⟨p,0,none⟩)] w fun E w'=>E=.returned (.bool true)∧w=w':=by
 have c0:=ai hB 0 rfl
 clear hB
 go_enter Tryz.func86,Tryz.ntmps86
 go_wp2
 go_ret
 exact⟨rfl,rfl⟩
theorem zW:∀(r:List Cw),ccells r=gcells iD r
 |[]=>rfl
 |c::r=>by rw[ccells,gcells,zW r]
theorem ak0 {e base:Nat}{w:World}{v:Value}{r:List Cw}:bn e base w v r↔dM iD 3 e base w v r:=by
 unfold bn dM
 rw[zW]
theorem ac1 (c:Cw):(iD c).length=3:=rfl
theorem Tryz.info3:(Tryz.prog.info? 3).map (fun i=>(i.zero,i.size,i.bytes))=some (some (.int .i64 0),1,8):=by kernel_rfl
section
variable {base b o:Nat} {t:TypeId} {cs:Array Value} {W:World} {vc ve:Value} {rs:List Cw} {zs:List Int}
theorem akt (hB:W.heap[b]? =some (.cells cs t (0,0)))(ho:cs[o+1]? =some ve)(h1:t≠35)(h2:t≠3)(h3:t≠111)(h:Lr base W vc ve rs zs)(hl:zs.length≤1048576)(hbase:base≤W.heap.size)(x:Int)(hx:(Lit.int .i64 x).wf=true):
  ∃V,W.drew.alloc (.cells #[.int .i64 x] 3)=V∧V.cell? ⟨b,o+1,none⟩=some ve∧Hid (∀ty,∃v' w',(Builtin.append_ #[109,109] ty #[ve,.slice (some ⟨W.heap.size,0,none⟩) 1 1]).run Tryz.prog V=.ok v' w'∧
   ((∃U,w'.setCell ⟨b,o+1,none⟩ v'=U∧U.heap[b]? =some (.cells (cs.setIfInBounds (o+1) v') t (0,0))∧Lr base U vc v' rs (zs++[x])∧Out (fun g=>g=b∨ve.ownBlock=some g) W U∧(v'.ownBlock=ve.ownBlock∨∃g,v'.ownBlock=some g∧W.heap.size≤g))∧w'.cell? ⟨b,o+1,none⟩=some ve∧w'.frozen? ⟨b,o+1,none⟩=false∧∃a n c,v'=.slice a n c)):=by
 obtain⟨V,hV,jX,bf,own⟩:=lF .i64 3 W.drew #[.int .i64 x] 1 [x] rfl rfl (by simp[maxLen]) (by simpa using hx)
 have aF:Below W.heap.size W V:=(below_drewN (Below.refl W.heap.size W) 1).trans bf
 have hbw:b<W.heap.size:=ax hB
 have hBV:V.heap[b]? =some (.cells cs t (0,0)):=(aF.block b hbw).trans hB
 refine⟨V,hV,ai hBV (o+1) ho,hide fun ty=>?_⟩
 have hV':=h.below aF
 have ayF:V.heap.size=W.heap.size+1:=jX
 obtain⟨v',w',hr,hown,hg,hat⟩:=lq (P:=Tryz.prog) (w:=V) 109 ty .i64 3 base 8 Tryz.underlying109 Tryz.info3 (by decide) ve zs hV'.en _ [x] own.is (by simp;omega) (by omega)
 have hne:∀g,ve.ownBlock=some g→g≠b:=fun g hg e=>h.ne hB h1 h2 h3 (.inr (.inl (e▸hg)))
 have hBw:w'.heap[b]? =some (.cells cs t (0,0)):=(hg.block b (by omega) fun e=>hne b e.symm rfl).trans hBV
 obtain⟨U,hU⟩:∃U,w'.setCell ⟨b,o+1,none⟩ v'=U:=⟨_,rfl⟩
 have oU:Out (fun g=>g=b) w' U:=by
  rw[←hU]
  exact Out.aQ (az w' ⟨b,o+1,none⟩ _) fun g hg=>by simp at hg;exact hg.symm
 have oA:Out (fun g=>g=b∨ve.ownBlock=some g) W w':=(Out.of_below (F:=fun g=>g=b∨ve.ownBlock=some g) aF).trans (Out.aQ (F:=fun g=>g=b∨ve.ownBlock=some g) hg fun g hg=>.inr hg) fun g hg=>.inl hg
 have oW:Out (fun g=>g=b∨ve.ownBlock=some g) W U:=oA.trans oU fun g hg=>.inl (.inl hg)
 have nvc:∀g,vc.ownBlock=some g→ve.ownBlock≠some g:=fun g hg he=>by
  obtain⟨c1,e1⟩:=h.row.type hg
  obtain⟨c2,e2⟩:=h.en.type he
  rw[e1]at e2
  simp only[Option.some.injEq,Obj.cells.injEq]at e2
  exact absurd e2.2.1 (by decide)
 have nop:∀c∈rs,∀g,c.v.ownBlock=some g→ve.ownBlock≠some g:=fun c hc g hg he=>by
  obtain⟨c1,e1⟩:=(h.kN c hc).type hg
  obtain⟨c2,e2⟩:=h.en.type he
  rw[e1]at e2
  simp only[Option.some.injEq,Obj.cells.injEq]at e2
  exact absurd e2.2.1 (by decide)
 refine⟨v',w',hr,⟨U,hU,by rw[←hU,aH hBw],⟨?_,?_,?_⟩,oW,?_⟩,ai hBw (o+1) ho,aA hBw (o+1),hown.is.form⟩
 ·refine bN h.row fun g hg=>oW.block g (World.ownsRow.lt h.row g hg).2 fun e=>?_
  rcases e with e|e
  ·exact h.ne hB h1 h2 h3 (.inl (e▸hg))
  ·exact nvc g hg e
 ·intro c hc
  refine bN (h.kN c hc) fun g hg=>oW.block g ((h.kN c hc).block g hg).2 fun e=>?_
  rcases e with e|e
  ·exact h.ne hB h1 h2 h3 (.inr (.inr ⟨c,hc,e▸hg⟩))
  ·exact nop c hc g hg e
 ·refine hown.agree fun g hg=>oU.block g (hown.block g hg).2 fun e=>?_
  obtain⟨c1,e1⟩:=hown.type hg
  rw[e,hBw]at e1
  simp only[Option.some.injEq,Obj.cells.injEq]at e1
  exact h2 e1.2.1
 ·rcases hat with e|e
  ·exact .inl e
  ·exact .inr ⟨_,e,by omega⟩
theorem ajL (hB:W.heap[b]? =some (.cells cs t (0,0)))(ho:cs[o]? =some vc)(h1:t≠35)(h2:t≠3)(h3:t≠111)(h:Lr base W vc ve rs zs)(hl:rs.length≤1048576)(hbase:base≤W.heap.size)(c:Cw)(hc:bg 111 base W c.v c.l):
  ∃V,W.drew.alloc (.cells #[.int .i64 c.e,.int .i64 c.n,c.v] 35)=V∧V.cell? ⟨b,o,none⟩=some vc∧Hid (∀ty,∃v' w',(Builtin.append_ #[22,22] ty #[vc,.slice (some ⟨W.heap.size,0,none⟩) 1 1]).run Tryz.prog V=.ok v' w'∧
   ((∃U,w'.setCell ⟨b,o,none⟩ v'=U∧U.heap[b]? =some (.cells (cs.setIfInBounds o v') t (0,0))∧Lr base U v' ve (rs++[c]) zs∧Out (fun g=>g=b∨vc.ownBlock=some g) W U∧(v'.ownBlock=vc.ownBlock∨∃g,v'.ownBlock=some g∧W.heap.size≤g))∧w'.cell? ⟨b,o,none⟩=some vc∧w'.frozen? ⟨b,o,none⟩=false∧∃a n c,v'=.slice a n c)):=by
 obtain⟨V,hV,jX,bf,own⟩:=rR iD 3 ac1 35 W.drew #[.int .i64 c.e,.int .i64 c.n,c.v] 1 [c] rfl rfl (by simp[maxLen])
 have aF:Below W.heap.size W V:=(below_drewN (Below.refl W.heap.size W) 1).trans bf
 have hbw:b<W.heap.size:=ax hB
 have hBV:V.heap[b]? =some (.cells cs t (0,0)):=(aF.block b hbw).trans hB
 refine⟨V,hV,ai hBV o ho,hide fun ty=>?_⟩
 have hV':=h.below aF
 have ayF:V.heap.size=W.heap.size+1:=jX
 obtain⟨v',w',hr,hown,hg,hat⟩:=oC (P:=Tryz.prog) (w:=V) 22 ty iD 3 40 ac1 (by decide) (by decide) (.agg #[.int .i64 0,.int .i64 0,.slice none 0 0]) rfl 35 base Tryz.underlying22 Tryz.oq vc rs (ak0.1 hV'.row) _ [c] own.row (by
  rw[←zW]
  exact nV [c] fun d hd=>by rw[List.mem_singleton.1 hd];exact hc.is.one) (by simp;omega) (by omega)
 have hne:∀g,vc.ownBlock=some g→g≠b:=fun g hg e=>h.ne hB h1 h2 h3 (.inl (e▸hg))
 have hBw:w'.heap[b]? =some (.cells cs t (0,0)):=(hg.block b (by omega) fun e=>hne b e.symm rfl).trans hBV
 obtain⟨U,hU⟩:∃U,w'.setCell ⟨b,o,none⟩ v'=U:=⟨_,rfl⟩
 have oU:Out (fun g=>g=b) w' U:=by
  rw[←hU]
  exact Out.aQ (az w' ⟨b,o,none⟩ _) fun g hg=>by simp at hg;exact hg.symm
 have oA:Out (fun g=>g=b∨vc.ownBlock=some g) W w':=(Out.of_below (F:=fun g=>g=b∨vc.ownBlock=some g) aF).trans (Out.aQ (F:=fun g=>g=b∨vc.ownBlock=some g) hg fun g hg=>.inr hg) fun g hg=>.inl hg
 have oW:Out (fun g=>g=b∨vc.ownBlock=some g) W U:=oA.trans oU fun g hg=>.inl (.inl hg)
 have nve:∀g,ve.ownBlock=some g→vc.ownBlock≠some g:=fun g hg he=>by
  obtain⟨c1,e1⟩:=h.en.type hg
  obtain⟨c2,e2⟩:=h.row.type he
  rw[e1]at e2
  simp only[Option.some.injEq,Obj.cells.injEq]at e2
  exact absurd e2.2.1 (by decide)
 have opb:∀d:Cw,bg 111 base W d.v d.l→bg 111 base U d.v d.l:=fun d hd=>by
  refine bN hd fun g hg=>oW.block g (bg.block hd g hg).2 fun e=>?_
  obtain⟨c1,e1⟩:=hd.type hg
  rcases e with e|e
  ·rw[e,hB]at e1
   simp only[Option.some.injEq,Obj.cells.injEq]at e1
   exact h3 e1.2.1
  ·obtain⟨c2,e2⟩:=h.row.type e
   rw[e1]at e2
   simp only[Option.some.injEq,Obj.cells.injEq]at e2
   exact absurd e2.2.1 (by decide)
 obtain⟨xa,xc,hv',_⟩:=hown.row.shape
 refine⟨v',w',hr,⟨U,hU,by rw[←hU,aH hBw],⟨?_,?_,?_⟩,oW,?_⟩,ai hBw o ho,aA hBw o,xa,_,xc,hv'⟩
 ·refine ak0.2 (hown.agree fun g hg=>oU.block g (hown.lt g hg).2 fun e=>?_)
  obtain⟨c1,e1⟩:=hown.type hg
  rw[e,hBw]at e1
  simp only[Option.some.injEq,Obj.cells.injEq]at e1
  exact h1 e1.2.1
 ·intro d hd
  rcases List.mem_append.1 hd with hd|hd
  ·exact opb d (h.kN d hd)
  ·rw[List.mem_singleton.1 hd]
   exact opb c hc
 ·refine h.en.agree fun g hg=>oW.block g (h.en.block g hg).2 fun e=>?_
  rcases e with e|e
  ·exact h.ne hB h1 h2 h3 (.inr (.inl (e▸hg)))
  ·exact nve g hg e
 ·rcases hat with e|e
  ·exact .inl e
  ·exact .inr ⟨_,e,by omega⟩
end
end Go.Proofs.YtmngcecomcadkaaGreatDoor
namespace Go.Proofs.YtmngcecomcadkaaGreatDoor
set_option linter.unusedVariables false
def Rdl (bs:List Int) (l:List Cm.Cv):Prop:=Cm.Good 0 0 l∧Wl.aR l<+:bs
end Go.Proofs.YtmngcecomcadkaaGreatDoor
namespace Go.Proofs.YtmngcecomcadkaaGreatDoor
open Go.RowKit
set_option linter.unusedVariables false
theorem Tryz.afT:∀args w,(callFunc 87 args).run Tryz.prog w=.ok (.enter 87 args) w:=enters_of Tryz.func87 (by kernel_rfl) rfl
theorem Tryz.akQ:∀args w,(callFunc 187 args).run Tryz.prog w=.ok (.enter 187 args) w:=enters_of Tryz.func187 (by kernel_rfl) rfl
theorem akO (b o:Nat)(w:World)(vc:Value)(rs:List Cw)(hc:w.cell? ⟨b,o,none⟩=some vc)(h:fu w vc rs)(hl:rs.length≤1048576)(c:Cw)(hi:dh w c.v c.l)(he:In64 c.e)(hn:In64 c.n)(hf:iL c.l)(hlo:c.l.length*40≤140737488351232):
  Calls Tryz.prog 155 #[.pointer (some ⟨b,o,none⟩),bK c.e c.n c.v] w fun E w'=>E=.returned (.bool (tk (ay rs) c.c))∧Below w.heap.size w w':=by
 obtain⟨ao,cap,hv,_,_⟩:=hi.shape
 obtain⟨w1,hw1,aT,aj,hB⟩:=ak w #[.int .i64 c.e,.int .i64 c.n,c.v] 35
 have c0:w1.cell? ⟨w.heap.size,0,none⟩=some (.int .i64 c.e):=ai hB 0 rfl
 have c1:w1.cell? ⟨w.heap.size,1,none⟩=some (.int .i64 c.n):=ai hB 1 rfl
 have c2:w1.cell? ⟨w.heap.size,2,none⟩=some c.v:=ai hB 2 rfl
 have hbw:b<w.heap.size:=World.block_lt_of_cell? _ _ hc
 have hK:∀W,Below w1.heap.size w1 W→Below w.heap.size w W:=fun W hb=>aj.trans (hb.mono aj.size)
 have hS:∀W,Below w1.heap.size w1 W→W.cell? ⟨w.heap.size,0,none⟩=some (.int .i64 c.e)∧W.cell? ⟨w.heap.size,1,none⟩=some (.int .i64 c.n)∧W.cell? ⟨w.heap.size,2,none⟩=some c.v:=fun W hb=>
  ⟨(hb.cell (p:=⟨w.heap.size,0,none⟩) (show w.heap.size<w1.heap.size by omega)).trans c0,(hb.cell (p:=⟨w.heap.size,1,none⟩) (show w.heap.size<w1.heap.size by omega)).trans c1,(hb.cell (p:=⟨w.heap.size,2,none⟩) (show w.heap.size<w1.heap.size by omega)).trans c2⟩
 have HE:Hid (∀W,Below w1.heap.size w1 W→Calls Tryz.prog 112 #[.pointer (some ⟨b,o,none⟩)] W fun E w'=>E=.returned (.int .i64 (Cm.lastE 0 (ay rs)))∧Below W.heap.size W w'∧Below w1.heap.size w1 w'∧w'.cell? ⟨w.heap.size,0,none⟩=some (.int .i64 c.e)∧w'.cell? ⟨w.heap.size,1,none⟩=some (.int .i64 c.n)∧w'.cell? ⟨w.heap.size,2,none⟩=some c.v):=hide fun W hb=>by
  refine(aaq b o W vc rs (((hK W hb).cell (p:=⟨b,o,none⟩) hbw).trans hc) (h.below (hK W hb)) hl).mono ?_
  rintro E w' ⟨rfl,m,rfl⟩
  exact⟨rfl,below_drewN (Below.refl _ _) m,below_drewN hb m,hS _ (below_drewN hb m)⟩
 have HN:Hid (∀W,Below w1.heap.size w1 W→Calls Tryz.prog 87 #[.pointer (some ⟨b,o,none⟩)] W fun E w'=>E=.returned (.int .i64 rs.length)∧W=w'):=hide fun W hb=>
  jC b o W vc rs (((hK W hb).cell (p:=⟨b,o,none⟩) hbw).trans hc) (h.below (hK W hb))
 have hcl:(ay rs).length=rs.length:=fF rs
 obtain⟨fe,fp,anH⟩:∃fe fp,Cm.fol (Cm.lastE 0 (ay rs)) rs.length 0 [c.c]=(fe,fp):=⟨_,_,rfl⟩
 have HT:Hid (tk (ay rs) c.c=((fe==0)&&(fp==0))):=hide (by rw[auQ,hcl,anH])
 have HF:Hid (∀W v,Below w1.heap.size w1 W→fu W v [c]→Calls Tryz.prog 6 #[.int .i64 (Cm.lastE 0 (ay rs)),.int .i64 rs.length,v] W fun E w'=>E=.returned (.agg #[.int .i64 fe,.int .i64 fp])∧Below w1.heap.size w1 w'∧w'.cell? ⟨w.heap.size,0,none⟩=some (.int .i64 c.e)∧w'.cell? ⟨w.heap.size,1,none⟩=some (.int .i64 c.n)∧w'.cell? ⟨w.heap.size,2,none⟩=some c.v):=hide fun W v hb hr=>by
  have hx:=jA (Cm.lastE 0 (ay rs)) rs.length v [c] W ⟨hr,fun d hd=>by rw[List.mem_singleton.1 hd];exact⟨hi.below (hK W hb),he,hn⟩⟩ (fun d hd=>by rw[List.mem_singleton.1 hd];exact⟨hf,hlo⟩) (by simp)
  rw[show ay [c]=[c.c]from rfl,anH]at hx
  refine hx.mono ?_
  rintro E w' ⟨rfl,hb'⟩
  have hb2:=hb.trans (hb'.mono hb.size)
  exact⟨rfl,hb2,hS _ hb2⟩
 have hrow:Hid (∀W,∃V,W.alloc (.cells #[.int .i64 c.e,.int .i64 c.n,c.v] 35)=V∧Below W.heap.size W V∧fu V (.slice (some ⟨W.heap.size,0,none⟩) 1 1) [c]):=hide fun W=>by
  obtain⟨V,hV,_,bV,oV⟩:=kC 35 W #[.int .i64 c.e,.int .i64 c.n,c.v] 1 [c] rfl rfl (by simp[maxLen])
  exact⟨V,hV,bV,oV.row⟩
 obtain⟨wA,hwA,gM,auq⟩:=hrow.out w1.drew
 have b1A:Below w1.heap.size w1 wA:=(Below.refl w1.heap.size w1).drew.trans gM
 obtain⟨a0,a1,a2⟩:=hS wA b1A
 have HS:=hide hS
 have RA:Hid (fu wA (.slice (some ⟨w.heap.size+1,0,none⟩) 1 1) [c]):=hide (by rw[←aT];exact auq)
 have b11:Below w1.heap.size w1 w1.drew:=(Below.refl w1.heap.size w1).drew
 have q1:=Tryz.avm fe fp 0 0
 have q2:=Tryz.oG .eql
 unfold bK
 rw[hv]at c2 a2 hw1 hwA HE HF HS hrow⊢
 generalize Cm.lastE 0 (ay rs)=ep at*
 rw[HT.out]
 have FIN:Hid (∀W,Below w1.heap.size w1 W→Below w.heap.size w W):=hide hK
 clear hc h hi he hn hf hlo hB anH hv hcl hK hS auq gM
 go_enter Tryz.func155,Tryz.ntmps155
 go_wp2_with fail
 go_region_held3 (fun w'=>w'.cell? ⟨w.heap.size,0,none⟩=some (.int .i64 c.e)∧w'.cell? ⟨w.heap.size,1,none⟩=some (.int .i64 c.n)∧w'.cell? ⟨w.heap.size,2,none⟩=some (.slice ao c.l.length cap)) (first|exact⟨c0,c1,c2⟩|exact⟨a0,a1,a2⟩|exact⟨d0,d1,d2⟩|exact⟨e0,e1,e2⟩|exact⟨i0,i1,i2⟩|go_keep)
  (first
  |(go_at_call 112;refine(HE.out _ (by first|exact b11|exact b1A)).mono ?_;rintro E w2 ⟨rfl,au,b12,d0,d1,d2⟩;first|(have ait:=hide (RA.out.below au))|skip;obtain⟨w4,hw4,aK,abO⟩:=hrow.out w2;have b14:=b12.trans (aK.mono b12.size);obtain⟨e0,e1,e2⟩:=HS.out w4 b14;have abO:=hide abO;clear au aK)
  |(go_at_call 87;refine(HN.out _ (by first|exact b12|exact b14)).mono ?_;rintro E w3 ⟨rfl,rfl⟩)
  |(go_at_call 6;refine(HF.out _ _ (by first|exact b14|exact b12) (by first|exact abO.out|exact ait.out)).mono ?_;rintro E w5 ⟨rfl,b15,i0,i1,i2⟩))
 all_goals
  go_wp2
  go_ret
  exact⟨rfl,FIN.out _ b15⟩
theorem yO (cs:Array Value)(i j:Nat)(v:Value)(h:i≠j):(cs.setIfInBounds i v)[j]? =cs[j]? :=by
 rw[Array.getElem?_setIfInBounds,if_neg h]
theorem ajY (base b o:Nat)(t:TypeId)(cs:Array Value)(w:World)(l:List Cm.Cv)(vc ve:Value)(rs:List Cw)(c:Cw)(size:Nat)
  (hB:w.heap[b]? =some (.cells cs t (0,0))) (ho:cs[o]? =some vc) (ho1:cs[o+1]? =some ve) (h1:t≠35) (h2:t≠3) (h3:t≠111) (h:Lw base w l vc ve rs) (hbase:base≤w.heap.size)
  (hc:bg 111 base w c.v c.l) (hg:Cm.Good 0 0 (l++[c.c])) (hs:size=(Wl.fr c.c).length):
  Calls Tryz.prog 157 #[.pointer (some ⟨b,o,none⟩),bK c.e c.n c.v,.int .i64 size] w fun E w'=>E=.returned (.tuple #[])∧
   ∃rF qW,w'.heap[b]? =some (.cells ((cs.setIfInBounds (o+1) qW).setIfInBounds o rF) t (0,0))∧Lw base w' (l++[c.c]) rF qW (rs++[c])∧Out (fun g=>g=b∨LB vc ve rs g) w w'∧∀g,LB rF qW (rs++[c]) g→LB vc ve rs g∨w.heap.size≤g∨c.v.ownBlock=some g:=by
 have hll:=eO h.good
 have hlen:=h.len
 obtain⟨ao,cap,hv,_,_⟩:=hc.is.shape
 obtain⟨w1,hw1,aT,aj,hB0⟩:=ak w #[.int .i64 c.e,.int .i64 c.n,c.v] 35
 have hbw:b<w.heap.size:=ax hB
 have hB1:w1.heap[b]? =some (.cells cs t (0,0)):=(aj.block b hbw).trans hB
 have L1:=h.below aj
 have hsum:(Wl.aR (l++[c.c])).length=(Wl.aR l).length+size:=by rw[Wl.kL,Wl.yt,List.length_append,hs]
 have hle:=vW hg
 have hx:(Lit.int .i64 ((Wl.aR l).length+size:Int)).wf=true:=by
  have h5:(Wl.aR l).length+size≤454033408:=by omega
  exact wf_i64 (by omega) (by omega)
 have HE:Hid (Calls Tryz.prog 87 #[.pointer (some ⟨b,o,none⟩)] w1.drew fun E w'=>∃v,E=.returned v∧(v=.int .i64 rs.length∧w1.drew=w')):=hide ((jC b o w1.drew vc rs (ai hB1 o ho) (L1.r.row.row.below ((Below.refl _ _).drew))).mono fun E w' h=>⟨_,h.1,rfl,h.2⟩)
 have HP:Hid (Calls Tryz.prog 187 #[.pointer (some ⟨b,o,none⟩),.int .i64 rs.length] w1.drew fun E w'=>∃v,E=.returned v∧(v=.int .i64 (Wl.aR l).length∧w1.drew=w')):=hide (by
  have:=uY b o w1.drew ve l rs.length (by omega) hll (ai hB1 (o+1) ho1) (L1.r.en.is.drewN 1)
  rw[List.take_of_length_le (by omega)]at this
  exact this.mono fun E w' h=>⟨_,h.1,rfl,h.2⟩)
 obtain⟨V1,hV1,cV1,X1⟩:=akt (o:=o) hB1 ho1 h1 h2 h3 L1.r (by rw[nH];exact hll) (by omega) ((Wl.aR l).length+size:Int) hx
 have T2:Hid (∀v' U,U.heap[b]? =some (.cells (cs.setIfInBounds (o+1) v') t (0,0))→Lr base U vc v' rs (ends l++[((Wl.aR l).length+size:Int)])→Out (fun g=>g=b∨ve.ownBlock=some g) w1 U→(v'.ownBlock=ve.ownBlock∨∃g,v'.ownBlock=some g∧w1.heap.size≤g)→
   ∃V,U.drew.alloc (.cells #[.int .i64 c.e,.int .i64 c.n,c.v] 35)=V∧V.cell? ⟨b,o,none⟩=some vc∧U.cell? ⟨b,o,none⟩=some vc∧(U.cell? ⟨w.heap.size,0,none⟩=some (.int .i64 c.e)∧U.cell? ⟨w.heap.size,1,none⟩=some (.int .i64 c.n)∧U.cell? ⟨w.heap.size,2,none⟩=some c.v)∧(V.cell? ⟨w.heap.size,0,none⟩=some (.int .i64 c.e)∧V.cell? ⟨w.heap.size,1,none⟩=some (.int .i64 c.n)∧V.cell? ⟨w.heap.size,2,none⟩=some c.v)∧
   Hid (∀ty,∃v2 w2,(Builtin.append_ #[22,22] ty #[vc,.slice (some ⟨U.heap.size,0,none⟩) 1 1]).run Tryz.prog V=.ok v2 w2∧((∃U2,w2.setCell ⟨b,o,none⟩ v2=U2∧
    (U2.heap[b]? =some (.cells ((cs.setIfInBounds (o+1) v').setIfInBounds o v2) t (0,0))∧Lw base U2 (l++[c.c]) v2 v' (rs++[c])∧Out (fun g=>g=b∨LB vc ve rs g) w U2∧∀g,LB v2 v' (rs++[c]) g→LB vc ve rs g∨w.heap.size≤g∨c.v.ownBlock=some g))∧w2.cell? ⟨b,o,none⟩=some vc∧w2.frozen? ⟨b,o,none⟩=false∧∃a n c,v2=.slice a n c))):=hide fun v' U yP LU oU aU=>by
  have hoU:(cs.setIfInBounds (o+1) v')[o]? =some vc:=by rw[yO _ _ _ _ (by omega)];exact ho
  have hne:¬(w.heap.size=b∨ve.ownBlock=some w.heap.size):=by
   rintro(e|e)
   ·omega
   ·have:=(h.r.en.block _ e).2
    omega
  have aiU:=(oU.block w.heap.size (by omega) hne).trans hB0
  have hcU:bg 111 base U c.v c.l:=by
   refine bN (hc.below aj) fun g hg'=>oU.block g (bg.block (hc.below aj) g hg').2 ?_
   obtain⟨c1,e1⟩:=(hc.below aj).type hg'
   rintro(e|e)
   ·rw[e,hB1]at e1
    simp only[Option.some.injEq,Obj.cells.injEq]at e1
    exact h3 e1.2.1
   ·obtain⟨c2,e2⟩:=L1.r.en.type e
    rw[e1]at e2
    simp only[Option.some.injEq,Obj.cells.injEq]at e2
    exact absurd e2.2.1 (by decide)
  obtain⟨V2,hV2,cV2,X2⟩:=ajL (o:=o) yP hoU h1 h2 h3 LU (by omega) (by have:=oU.size;omega) c hcU
  have bf:Below U.heap.size U V2:=by
   rw[←hV2]
   exact(Below.refl U.heap.size U).drew.trans (show Below U.heap.size U.drew _ from(Below.refl U.drew.heap.size U.drew).alloc (Nat.le_refl _) _)
  have aoM:=(bf.block w.heap.size (by have:=oU.size;omega)).trans aiU
  refine⟨V2,hV2,cV2,ai yP o hoU,⟨ai aiU 0 rfl,ai aiU 1 rfl,ai aiU 2 rfl⟩,⟨ai aoM 0 rfl,ai aoM 1 rfl,ai aoM 2 rfl⟩,hide fun ty=>?_⟩
  obtain⟨v2,w2,hr,⟨U2,hU2,ayn,LU2,oU2,aU2⟩,k1,k2,k3⟩:=X2.out ty
  refine⟨v2,w2,hr,⟨U2,hU2,ayn,⟨?_,?_,hg⟩,?_,?_⟩,k1,k2,k3⟩
  ·rw[alz,hsum]
   exact LU2
  ·rw[ay,List.map_append,←ay,h.is]
   rfl
  ·have s1:Out (fun g=>g=b∨LB vc ve rs g) w w1:=Out.of_below aj
   have s2:Out (fun g=>g=b∨LB vc ve rs g) w U:=s1.trans oU fun g hg=>.inl (hg.elim .inl fun e=>.inr (.inr (.inl e)))
   exact s2.trans oU2 fun g hg=>.inl (hg.elim .inl fun e=>.inr (.inl e))
  ·have su:=oU.size
   rintro g (e|e|⟨d,hd,e⟩)
   ·rcases aU2 with a|⟨g',a,hg'⟩
    ·exact .inl (.inl (a▸e))
    ·rw[e]at a
     simp only[Option.some.injEq]at a
     exact .inr (.inl (by omega))
   ·rcases aU with a|⟨g',a,hg'⟩
    ·exact .inl (.inr (.inl (a▸e)))
    ·rw[e]at a
     simp only[Option.some.injEq]at a
     exact .inr (.inl (by omega))
   ·rcases List.mem_append.1 hd with hd|hd
    ·exact .inl (.inr (.inr ⟨d,hd,e⟩))
    ·rw[List.mem_singleton.1 hd]at e
     exact .inr (.inr e)
 have X1':Hid (∀ty,∃v' w',(Builtin.append_ #[109,109] ty #[ve,.slice (some ⟨w1.heap.size,0,none⟩) 1 1]).run Tryz.prog V1=.ok v' w'∧((∃U,w'.setCell ⟨b,o+1,none⟩ v'=U∧(U.heap[b]? =some (.cells (cs.setIfInBounds (o+1) v') t (0,0))∧Lr base U vc v' rs (ends l++[((Wl.aR l).length+size:Int)])∧Out (fun g=>g=b∨ve.ownBlock=some g) w1 U∧(v'.ownBlock=ve.ownBlock∨∃g,v'.ownBlock=some g∧w1.heap.size≤g)))∧w'.cell? ⟨b,o+1,none⟩=some ve∧w'.frozen? ⟨b,o+1,none⟩=false∧∃a n c,v'=.slice a n c)):=X1
 have c1:=ai hB1 (o+1) ho1
 have hwr:IntKind.i64.wrap (((Wl.aR l).length:Int)+size)=((Wl.aR l).length:Int)+size:=aS _ (by omega) (by omega)
 obtain⟨ea,ec,hve,_,_⟩:=h.r.en.is.shape
 obtain⟨ca,cc,mX,_,_⟩:=h.r.row.row.shape
 unfold bK
 rw[hv]at hw1 T2⊢
 subst hve mX
 generalize (Wl.aR l).length=z at*
 clear hB h hc hB0 hB1 L1 X1 hg hs hsum hle hll hv ho ho1 hx aj hlen
 go_enter Tryz.func157,Tryz.ntmps157
 go_wp2_with fail
 go_region_law (first
  |(refine qf rfl 87 #[.tmp 12] #[179] rfl Tryz.afT #[.pointer (some ⟨b,o,none⟩)] (by first|(simp[Act.eval];done)|(simp[Act.eval,Act.put];done)) HE.out ?_;rintro _ _ ⟨rfl,rfl⟩)
  |(refine qf rfl 187 #[.tmp 11,.tmp 13] #[179,3] rfl Tryz.akQ #[.pointer (some ⟨b,o,none⟩),.int .i64 rs.length] (by first|(simp[Act.eval];done)|(simp[Act.eval,Act.put];done)) HP.out ?_;rintro _ _ ⟨rfl,rfl⟩)
  |(refine fo rfl (.tmp 10) (.tmp 17) 109 rfl (.slice ea (ends l).length ec) (.slice (some ⟨w1.heap.size,0,none⟩) 1 1) (by first|(simp[Act.eval];done)|(simp[Act.eval,Act.put];done)) (by first|(simp[Act.eval];done)|(simp[Act.eval,Act.put];done)) X1'.out ?_;rintro v7 w7 ⟨⟨U,hU,yP,LU,oU,aU⟩,d7,g7,a7,n7,k7,rfl⟩;obtain⟨V2,hV2,cV2,cU2,⟨p0,p1,p2⟩,⟨r0,r1,r2⟩,X2⟩:=T2.out _ U yP LU oU aU;clear yP LU oU aU))
 all_goals
  go_wp2_with fail
  go_region_law (refine fo rfl (.tmp 25) (.tmp 27) 22 rfl (.slice ca rs.length cc) (.slice (some ⟨U.heap.size,0,none⟩) 1 1) (by first|(simp[Act.eval];done)|(simp[Act.eval,Act.put];done)) (by first|(simp[Act.eval];done)|(simp[Act.eval,Act.put];done)) X2.out ?_;rintro v8 w8 ⟨⟨U2,hU2,J⟩,d8,g8,a8,n8,k8,rfl⟩;have J:=hide J)
  all_goals
   go_wp2
   go_end0
   exact⟨rfl,_,_,J.out⟩
structure Rst12 (w wr:World) (bs:List Int) (l:List Cm.Cv) (vc ve:Value) (rs:List Cw):Prop where
 rd:Rdl bs l
 log:Lw (w.heap.size+2) wr l vc ve rs
 ap:ApC rs
 bR:wr.heap[w.heap.size]? =some (.cells #[.slice none 0 0,.slice none 0 0] 135 (0,0))
 bL:wr.heap[w.heap.size+1]? =some (.cells #[vc,ve] 135 (0,0))
 aF:Below w.heap.size w wr
 sz:w.heap.size+2≤wr.heap.size
end Go.Proofs.YtmngcecomcadkaaGreatDoor
