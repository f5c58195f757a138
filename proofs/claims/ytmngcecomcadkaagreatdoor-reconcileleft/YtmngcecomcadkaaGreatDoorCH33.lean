/- Texts of one layer, one behind the other. -/
import Derived.Test.YtmngcecomcadkaaGreatDoorCH32
import Derived.Test.YtmngcecomcadkaaGreatDoorCH20
import Derived.Test.YtmngcecomcadkaaGreatDoorCH8
import Derived.Deep.RegionHeld3
import Derived.Test.YtmngcecomcadkaaGreatDoorCH16
import Derived.Test.YtmngcecomcadkaaGreatDoorCH9
set_option maxRecDepth 100000
set_option maxHeartbeats 8000000
namespace Go.Proofs.YtmngcecomcadkaaGreatDoor
open Go.RowKit
set_option linter.unusedVariables false
def pgL (k:Nat):Nat→Pm.Pg|0=>⟨2,3,0,1,0,0⟩|1=>⟨2,3,0,2,k,0⟩|2=>⟨2,3,0,3,k,0⟩|3=>⟨2,3,0,4,k,0⟩|_=>⟨2,2,0,0,0,0⟩
def ssL (l:List Cm.Cv) (k:Nat):Nat→List Orp.Se|0=>[]|1=>[]|_=>if k<l.length then [jQ 2 k l]else []
def lgL (l:List Cm.Cv) (k:Nat):Nat→List Cm.Cv|0=>l|1=>l|2=>l|_=>l.take k
def lM (w0 W:World) (p q:Nat) (l:List Cm.Cv) (k i:Nat) (Z:Nat→Prop):Prop:=
 ∃F s,lJ w0 W p q F (66+2*i) s (ssL l k i)∧s.p=pgL k i∧s.l=lgL l k i∧∀g,Z g→¬F g∧g<W.heap.size
section
variable {w0 W W':World} {p q k i:Nat} {l:List Cm.Cv} {Z Z':Nat→Prop}
theorem lM.below (h:lM w0 W p q l k i Z)(hb:Below W.heap.size W W'):lM w0 W' p q l k i Z:=by
 obtain⟨F,s,h1,h2,h3,h4⟩:=h
 exact⟨F,s,h1.below hb,h2,h3,fun g e=>⟨(h4 g e).1,Nat.lt_of_lt_of_le (h4 g e).2 hb.size⟩⟩
theorem lM.more (h:lM w0 W p q l k i Z)(hb:Below W.heap.size W W')(hz:∀g,Z' g→Z g∨(W.heap.size≤g∧g<W'.heap.size)):lM w0 W' p q l k i Z':=by
 obtain⟨F,s,h1,h2,h3,h4⟩:=h
 refine⟨F,s,h1.below hb,h2,h3,fun g e=>?_⟩
 rcases hz g e with e|⟨e1,e2⟩
 ·exact⟨(h4 g e).1,Nat.lt_of_lt_of_le (h4 g e).2 hb.size⟩
 ·exact⟨fun c=>by have:=h1.ps.lt g c;omega,e2⟩
theorem lM.put {X:Nat}(h:lM w0 W p q l k i Z)(hg:W.grownBy W' (some X))(hX:Z X)(hw:w0.heap.size≤X)(hp:0<w0.heap.size):lM w0 W' p q l k i Z:=by
 obtain⟨F,s,h1,h2,h3,h4⟩:=h
 have o:Out (fun g=>g=X) W W':=Out.aQ hg fun g e=>by simpa using e.symm
 have nX:∀g,F g→g≠X:=fun g e c=>(h4 X hX).1 (c▸e)
 refine⟨F,s,⟨h1.ps.agree (fun g e=>o.block g (h1.ps.lt g e) (nX g e)) o.size (gI h1.ps.gz o fun e=>?_),h1.n0,h1.jV,h1.new,h1.out.trans o fun g e=>?_⟩,h2,h3,fun g e=>⟨(h4 g e).1,Nat.lt_of_lt_of_le (h4 g e).2 o.size⟩⟩
 ·have e:0=X:=e
  omega
 ·have e:g=X:=e
  exact .inr (by omega)
theorem lM.out (h:lM w0 W p q l k i Z):Out (fun g=>g=q) w0 W:=by
 obtain⟨F,s,h1,_⟩:=h
 exact h1.out
theorem abX (k i:Nat)(hk:k≤30):eU (pgL k i)∧Pm.chk (pgL k i)=0:=by
 have h:Pm.chk (pgL k i)=0:=by
  unfold pgL
  split
  ·decide
  ·exact p9 (by decide) (by decide) (by decide) (by decide) (by omega) (by omega) (by decide) (by decide)
  ·exact p9 (by decide) (by decide) (by decide) (by decide) (by omega) (by omega) (by decide) (by decide)
  ·exact p9 (by decide) (by decide) (by decide) (by decide) (by omega) (by omega) (by decide) (by decide)
  ·decide
 exact⟨mq (Pm.fM.1 h),h⟩
theorem amT (h:lM w0 W p q l k i Z)(hi:i<4)(hg:Cm.Good 0 0 l)(hk:k≤l.length)(hl:l.length≤30){m:Mw}{c:Int}(im:fw W m)(fm:dx m)(ck:Mm.Ck m.m c)
  (h0:i=0→qD ⟨2,3,0,1,0,0⟩ m c=true∧Fr (Sm.told 0 l) l.length m.ss m.n (k:Nat)):
  Calls Tryz.prog 13 #[.pointer (some ⟨p,0,none⟩),mv m] W fun E w'=>E=.returned (.tuple #[vp (pgL k (i+1)),.int .i64 0])∧lM w0 w' p q l k (i+1) Z∧W.heap.size≤w'.heap.size∧∀g,Z g→w'.heap[g]? =W.heap[g]? :=by
 obtain⟨F,s,h1,h2,h3,h4⟩:=h
 have key:∀y s2 yT,dQ (66+2*(i+1)) s2 yT→y=pgL k (i+1)→yT=ssL l k (i+1)→s2.p=y→s2.l=lgL l k (i+1)→Calls Tryz.prog 13 #[.pointer (some ⟨p,0,none⟩),mv m] W (Stp p q F W y s2)→Calls Tryz.prog 13 #[.pointer (some ⟨p,0,none⟩),mv m] W fun E w'=>E=.returned (.tuple #[vp (pgL k (i+1)),.int .i64 0])∧lM w0 w' p q l k (i+1) Z∧W.heap.size≤w'.heap.size∧∀g,Z g→w'.heap[g]? =W.heap[g]? :=by
  intro y s2 yT hc hy hss hp hl hC
  refine hC.mono ?_
  rintro E w' ⟨rfl,j⟩
  subst hy hss
  obtain⟨F',j1,j2,j3⟩:=j
  have hw:=h1.ps.gz.pos
  have ho:=h1.out.size
  have hz:=j2.size
  refine⟨rfl,⟨F',s2,⟨j1,fun e=>?_,hc,fun g e=>?_,h1.out.trans j2 h1.new⟩,hp,hl,fun g e=>⟨fun c=>?_,by have:=(h4 g e).2;omega⟩⟩,hz,fun g e=>j2.block g (h4 g e).2 (h4 g e).1⟩
  ·rcases j3 0 e with e|e
   ·exact h1.n0 e
   ·omega
  ·rcases j3 g e with e|e
   ·exact h1.new g e
   ·exact .inr (by omega)
  ·rcases j3 g c with c|c
   ·exact(h4 g e).1 c
   ·have:=(h4 g e).2;omega
 obtain rfl|rfl|rfl|rfl:i=0∨i=1∨i=2∨i=3:=by omega
 ·have h3:s.l=l:=h3
  obtain⟨f1,f2⟩:=h0 rfl
  obtain⟨s2,g1,g2,g3,g4⟩:=aaZ (p:=p) (q:=q) h1.ps h1.n0 h1.jV (by omega) 2 h2 im fm ck (by rw[h2];exact f1) k (by rw[h3];exact f2) (by rw[h3];exact hk) (by show(Orp.secs []).length≤1000000;decide)
  exact key _ s2 _ (g1.mono (by omega)) rfl rfl g2 (g3.trans h3) g4
 ·have h3:s.l=l:=h3
  obtain⟨s2,g1,g2,g3,g4⟩:=abm (p:=p) (q:=q) h1.ps h1.n0 h1.jV (by omega) (by rw[h3];omega) 2 k h2 im fm ck
  rw[h3]at g1 g3
  exact key _ s2 _ g1 rfl rfl g2 g3 g4
 ·have h3:s.l=l:=h3
  obtain⟨s2,g1,g2,g3,g4⟩:=acT (p:=p) (q:=q) h1.ps h1.n0 h1.jV (by omega) 2 k 0 h2 im fm ck
  rw[h3]at g3
  exact key _ s2 _ g1 rfl rfl g2 g3 g4
 ·obtain⟨s2,g1,g2,g3,g4⟩:=aa1 (p:=p) (q:=q) h1.ps h1.n0 h1.jV (by omega) 2 k 0 h2 im fm ck
  exact key _ s2 _ (g1.mono (by omega)) rfl rfl g2 (g3.trans h3) g4
theorem anX (h:lM w0 W p q l k 0 Z){m:Mw}{c:Int}(im:fw W m)(fm:dx m)(ck:Mm.Ck m.m c)(hf:qD ⟨2,3,0,1,0,0⟩ m c=false):
  Calls Tryz.prog 13 #[.pointer (some ⟨p,0,none⟩),mv m] W fun E w'=>E=.returned (.tuple #[vp Pm.no,.int .i64 4])∧Below W.heap.size W w':=by
 obtain⟨F,s,h1,h2,h3,h4⟩:=h
 have h2:s.p=⟨2,3,0,1,0,0⟩:=h2
 exact aim h1.ps h1.jV (by omega) (by rw[h2]) im fm ck (by rw[h2];exact hf)
theorem uM (h:lM w0 W p q l k i Z)(hi:i≤4):Calls Tryz.prog 12 #[.pointer (some ⟨p,0,none⟩)] W fun E w'=>E=.returned (vp (pgL k i))∧Below W.heap.size W w':=by
 obtain⟨F,s,h1,h2,h3,h4⟩:=h
 have:=acJ p q F W s h1.ps (h1.jV.qR (by omega))
 rw[h2]at this
 exact this
end
def jM (k:Nat) (v:Value) (ss:List Sm.S):Mw:=⟨1,2,1,(k:Int)+1,v,ss,0,0,.slice none 0 0,[]⟩
def rD (l:List Cm.Cv) (k:Nat):List Sm.S:=Sm.told 0 (l.take k)++[(2,(k:Int)+1)]
section
variable {l:List Cm.Cv} {k:Nat}
theorem asz (hn:l.length≤30):(rD l k).length≤31:=by
 have:=qh (l.take k) 0
 have h2:(l.take k).length≤l.length:=by rw[List.length_take];exact Nat.min_le_right ..
 unfold rD
 rw[List.length_append]
 show _+1≤31
 omega
theorem ahg (v:Value)(hn:l.length≤30)(hk:k≤l.length):dx (jM k v (rD l k)):=
 ⟨by simp[jM,In64],by simp[jM,In64],by simp[jM],by simp[jM],by simp only[jM,In64];omega,by simp[jM,In64],by simp[jM,In64],by have:=asz (k:=k) hn;simp only[jM];omega,fun c hc=>by simp[jM]at hc,by simp[jM]⟩
theorem auL (hg:Cm.Good 0 0 l)(h1:Cm.lastE 0 l≤1)(hn:l.length≤30)(hk:k≤l.length):Sm.Ok (rD l k) ((k:Int)+1)∧Sm.dH (rD l k)≤2:=by
 have g2:=aaO hg h1 hn hk
 have hlen:(l.take k++[(⟨2,k+1,[kv]⟩:Cm.Cv)]).length=k+1:=by rw[List.length_append,List.length_take,Nat.min_eq_left hk];rfl
 have ok2:=Sm.qa g2
 rw[aav hg h1,hlen]at ok2
 refine⟨ok2,?_⟩
 unfold rD
 rw[Sm.jE]
 exact Int.le_refl _
theorem alg (v:Value)(hg:Cm.Good 0 0 l)(h1:Cm.lastE 0 l≤1)(hn:l.length≤30)(hk:k≤l.length):Mm.Ck (jM k v (rD l k)).m 0:=by
 obtain⟨o1,o2⟩:=auL hg h1 hn hk
 exact .inl ⟨rfl,by show(1:Int)≤2;decide,by show(2:Int)≤1048576;decide,.inl ⟨rfl,by show(1:Int)≤1;decide,by show(1:Int)≤3;decide,o1,o2,rfl,rfl,rfl⟩⟩
theorem ahs (v:Value)(ss:List Sm.S):qD ⟨2,3,0,1,0,0⟩ (jM k v ss) 0=true:=by
 unfold qD
 rw[decide_eq_true (show(⟨2,3,0,1,0,0⟩:Pm.Pg).r=3 from rfl),decide_eq_true (show(jM k v ss).r=1 from rfl),decide_eq_true (show(jM k v ss).e=(⟨2,3,0,1,0,0⟩:Pm.Pg).e from rfl),decide_eq_true rfl]
 rfl
end
theorem aho {w:World}{B:Nat}{e f:Int}{v:Value}{rs:List Cw}(hB:w.heap[B]? =some (.cells #[.int .i64 e,.int .i64 f,v] 52 (0,0)))(h:di w v rs)(hf:dL rs)(hl:rs.length≤1000)(he:In64 e)(hff:In64 f):nJ w (.slice (some ⟨B,0,none⟩) 1 1) [⟨e,f,v,rs⟩]∧tY [⟨e,f,v,rs⟩]:=by
 refine⟨⟨agC hB,fun x hx=>?_⟩,fun x hx=>?_⟩
 ·rw[List.mem_singleton.1 hx]
  exact⟨h,he,hff⟩
 ·rw[List.mem_singleton.1 hx]
  exact⟨hf,by show rs.length*40≤_;omega⟩
theorem aeR:Orp.chk (jQ 2 2 l3)=0:=acd (by decide) (by decide) sQ (by decide) (by decide)
theorem aod:(Orp.secs [jQ 2 2 l3]).length≤1000000:=by
 rw[Orp.nO]
 have h1:=Orp.aaB aeR
 have h2:(jQ 2 2 l3).cs.length=1:=rfl
 omega
theorem qg.put {w0 W V:World}{p q X k:Nat}(h:qg w0 W p q X k)(hg:W.grownBy V (some X))(hX:w0.heap.size≤X)(hp:0<w0.heap.size):qg w0 V p q X k:=by
 obtain⟨F,s,h1,h2,h3,h4,h5⟩:=h
 have o:Out (fun g=>g=X) W V:=Out.aQ hg fun g e=>by simpa using e.symm
 have nX:∀g,F g→g≠X:=fun g e k=>h4 (k▸e)
 refine⟨F,s,⟨h1.ps.agree (fun g e=>o.block g (h1.ps.lt g e) (nX g e)) o.size (gI h1.ps.gz o fun e=>?_),h1.n0,h1.jV,h1.new,h1.out.trans o fun g e=>?_⟩,h2,h3,h4,by have:=o.size;omega⟩
 ·have e:0=X:=e
  omega
 ·have e:g=X:=e
  exact .inr (by omega)
theorem qg.aF {w w0 W:World}{p X k:Nat}(h:qg w0 W p w.heap.size X k)(hb:Below w.heap.size w w0):Below w.heap.size w W:=by
 obtain⟨F,s,h1,_⟩:=h
 exact hb.trans (h1.out.below (fun g e=>by rw[e];exact Nat.le_refl _) hb.size)
theorem agq (w:World)(hm:eH w):Calls Tryz.prog 4 #[] w fun E w'=>E=.returned (.bool true)∧Below w.heap.size w w':=by
 have ND:=hide (ag0 w)
 have HP:=hide hm
 have hz:=hm.pos
 have HV:Hid (∀y:Pm.Pg,vp y=.agg #[.int .i64 y.e,.int .u8 y.r,.int .i64 y.a,.int .u8 y.p,.int .i64 y.f,.int .i64 y.b]):=hide fun _=>rfl
 clear hm
 go_enter Tryz.func4,Tryz.ntmps4
 go_wp2_with fail
 refine ND.out.mono ?_
 rintro E w1 ⟨rfl,k1,b1⟩
 obtain⟨w2,hw2,s2,b2,P2⟩:=ak w1 #[.int .i64 1,.int .i64 1,.int .i64 1] 3
 have LG:=hide (afm w1.heap.size w2 P2)
 have z1:=b1.size
 have PK:Hid (Pk w.heap.size (fun g=>g=w.heap.size) w2 Dm.new∧Below w.heap.size w w2∧w.heap.size<w2.heap.size):=hide ⟨k1.below b2,b1.trans (b2.mono z1),by have:=k1.lt w.heap.size rfl;omega⟩
 clear ND k1 b1 b2 P2
 go_wp2_with fail
 refine LG.out.mono ?_
 rintro E w3 ⟨la,lk',rfl,L3,b3⟩
 have fV:=PK.out.2.1.trans (b3.mono PK.out.2.1.size)
 have HE:Hid (Calls Tryz.prog 10 #[.pointer (some ⟨w.heap.size,0,none⟩),.slice la 3 lk',.int .i64 2] w3 fun E w'=>∃p F s,E=.returned (.pointer (some ⟨p,0,none⟩))∧Hid (lJ w3 w' p w.heap.size F 66 s []∧s.p=⟨2,3,0,1,0,0⟩∧s.l=l3)):=hide (by
  obtain⟨rs,o1,o2,o3⟩:=L3.out
  have hg:Cm.Good 0 0 (ay rs):=by rw[o3];exact sQ
  have hk:∀c∈ay rs,Cm.chk c.e c.n c.l=0:=fun c hc=>(Sto.iG hg c hc).1
  have hrl:rs.length=3:=by have:=congrArg List.length o3;unfold ay at this;rw[List.length_map]at this;exact this
  have:=ac6 w.heap.size w3 (PK.out.1.below b3) (HP.out.below fV) (by omega) _ rs (fun W hW=>(aaV (abr o1 o2 hW fun g e=>by rw[e];exact PK.out.2.2).1 (abr o1 o2 hW fun g e=>by rw[e];exact PK.out.2.2).2 hk).1) (aaV o1 o2 hk).2 hg (by omega) (by rw[o3];decide) 2 (by omega)
  rw[o3]at this
  exact this)
 have B3:=hide fV
 clear LG L3 b3 fV PK
 go_wp2_with fail
 refine HE.out.mono ?_
 rintro E w4 ⟨p,F,s,rfl,X4⟩
 have B4:Hid (Below w.heap.size w w4):=hide (B3.out.trans (X4.out.1.out.below (fun g e=>by rw[e];exact Nat.le_refl _) B3.out.size))
 have HH:=hide (aiN w4)
 clear HE
 go_wp2_with fail
 refine HH.out.mono ?_
 rintro E w5 ⟨hg,rfl,i5,b5⟩
 have S1:=hide (apz (X4.out.1.below b5) X4.out.2.1 X4.out.2.2 i5)
 obtain⟨y0,hy0⟩:∃y,vG 0=y:=⟨_,rfl⟩
 rw[hy0,HV.out]at S1
 have HY0:=hide hy0
 clear hy0
 have B5:=hide (B4.out.trans (b5.mono B4.out.size))
 have OW:=hide (X4.out.1.out.size)
 clear HH i5 b5 X4 B4
 go_wp2_with fail
 refine S1.out.mono ?_
 rintro E w6 ⟨rfl,F6,s6,k6,p6,l6⟩
 obtain⟨w7,hw7,ayf,sz7,b7,P7,⟨e0,e1,e2,e3,e4,e5⟩⟩:=uG w6 46 (.int .i64 0) (.int .u8 0) (.int .i64 0) (.int .u8 0) (.int .i64 0) (.int .i64 0) (.int .i64 y0.e) (.int .u8 y0.r) (.int .i64 y0.a) (.int .u8 y0.p) (.int .i64 y0.f) (.int .i64 y0.b)
 have K7:Hid (qg w3 w7 p w.heap.size w6.heap.size 0∧w7.heap[w6.heap.size]? =some (.cells (cp (vG 0)) 46 (0,0))):=hide ⟨⟨F6,s6,k6.below b7,by rw[p6,HY0.out],l6,fun e=>by have:=k6.ps.lt _ e;omega,by omega⟩,by rw[HY0.out];exact P7⟩
 have HX:Hid (w3.heap.size≤w6.heap.size∧0<w3.heap.size):=hide ⟨k6.out.size,by have:=B3.out.size;omega⟩
 have SP:=hide (mr y0 ⟨2,3,0,2,2,0⟩ w7)
 rw[HV.out,HV.out,show same y0 ⟨2,3,0,2,2,0⟩=true by rw[←HY0.out];decide]at SP
 clear S1 b7 P7 k6 p6 l6 B5 OW
 go_wp2_with fail
 refine SP.out.mono ?_
 rintro E w8 ⟨rfl,b8⟩
 have K8:Hid (qg w3 w8 p w.heap.size w6.heap.size 0∧w8.heap[w6.heap.size]? =some (.cells (cp (vG 0)) 46 (0,0))):=hide ⟨K7.out.1.below b8,(b8.block _ (ax K7.out.2)).trans K7.out.2⟩
 have HM:Hid (mv og=.agg #[.int .i64 0,.int .i64 0,.int .u8 0,.int .i64 0,.slice none 0 0,.int .i64 0,.int .i64 0,.slice none 0 0]):=hide rfl
 obtain⟨X,hX⟩:∃X,w6.heap.size=X:=⟨_,rfl⟩
 rw[hX]at K8 HX
 clear SP K7 b8 e0 e1 e2 e3 e4 e5
 go_wp2_with fail
 clear hX hw7 ayf sz7
 go_loopw [4,5] (fun ev iv wr=>∃k:Nat,k≤3∧iv=.int .i64 k∧ev=.int .i64 0∧Hid (qg w3 wr p w.heap.size X k∧wr.heap[X]? =some (.cells (cp (vG k)) 46 (0,0)))) (fun _ iv _=>3-(intOf iv).toNat)
 case atStart=>exact⟨0,by omega,rfl,rfl,K8⟩
 case round=>
  clear K8
  obtain⟨k,hk,rfl,rfl,KR⟩:=hrel
  by_cases hlt:k<3
  ·have ST:=hide (aoj KR.out.1 hlt)
   obtain⟨y,hy⟩:∃y,vG (k+1)=y:=⟨_,rfl⟩
   rw[hy,HV.out y,HM.out]at ST
   have hlt':(k:Int)<3:=by omega
   have HY:=hide hy
   clear hy
   go_wp2_with fail
   refine ST.out.mono ?_
   rintro E w2 ⟨rfl,j1,j2⟩
   obtain⟨V,hV,bV,gV,⟨q0,q1,q2,q3,q4,q5⟩,fr,⟨u0,u1,u2,u3,u4,u5⟩⟩:=eu (j2.trans KR.out.2) (.int .i64 y.e) (.int .u8 y.r) (.int .i64 y.a) (.int .u8 y.p) (.int .i64 y.f) (.int .i64 y.b)
   have f0:=fr 0;have f1:=fr 1;have f2:=fr 2;have f3:=fr 3;have f4:=fr 4;have f5:=fr 5
   have KV:Hid (qg w3 V p w.heap.size X (k+1)∧V.heap[X]? =some (.cells (cp (vG (k+1))) 46 (0,0))):=hide ⟨j1.put gV HX.out.1 HX.out.2,by rw[HY.out];exact bV⟩
   clear ST j1 j2 bV gV fr KR
   go_wp2
   go_roundw
   case rel=>exact⟨k+1,by omega,by go_num,rfl,KV⟩
   case measure=>simp[intOf];omega
  ·obtain rfl:k=3:=by omega
   obtain⟨F9,s9,h1,h2,h3,h4,h5⟩:=KR.out.1
   have b09:=KR.out.1.aF B3.out
   obtain⟨F1,d1,_,_⟩:=h1.ps.disk h1.n0
   have hR:=h1.jV.qR (by omega)
   have DU:=hide (yZ w.heap.size F1 wr s9.d 3 d1 (fun f=>Nat.le_trans (hR.1.1.1 f) (by decide)))
   have hdu:duB s9.d 3=Orp.secs [jQ 2 2 l3]:=by
    have:=h1.jV.kR.2.2
    unfold duB
    rw[if_neg (by decide)]
    exact this
   rw[hdu]at DU
   have QE:Hid (∀W,Below wr.heap.size wr W→Calls Tryz.prog 20 #[.pointer (some ⟨p,0,none⟩)] W fun E w'=>E=.returned (.int .i64 2)∧Below W.heap.size W w'):=hide fun W hW=>by
    have:=afL p w.heap.size F9 W s9 (h1.ps.below hW) hR
    rw[h3]at this
    exact this
   have X9:Hid (wr.heap[X]? =some (.cells #[.int .i64 2,.int .u8 2,.int .i64 0,.int .u8 0,.int .i64 0,.int .i64 0] 46 (0,0))∧Below w.heap.size w wr):=hide ⟨KR.out.2,b09⟩
   clear KR h1 h2 h3 h4 h5 b09 d1 hR hdu
   go_wp2_with fail
   refine DU.out.mono ?_
   rintro E x1 ⟨vb,rfl,o1,c1⟩
   have SC:=hide (mQ vb _ x1 o1.is (by have:=aod;omega))
   have C1:=hide c1
   clear DU o1 c1
   go_wp2_with fail
   refine SC.out.mono ?_
   rintro E x2 ⟨v2,l2,n2,rfl,Y2⟩
   have C2:Hid (Below wr.heap.size wr x2):=hide (C1.out.trans (Y2.out.2.2.2.2.mono C1.out.size))
   have hsw:Hid (iq l2=[jQ 2 2 l3]):=hide (Orp.sN Y2.out.2.2.2.1 (Orp.qc ⟨aeR,by decide,trivial⟩))
   have hl2:l2.length=1:=by have:=congrArg List.length hsw.out;rw[p8]at this;exact this
   obtain⟨tK,cp2,hv2,_,_⟩:=Y2.out.1.is.shape
   rw[hl2]at hv2
   subst hv2
   obtain⟨e0,e1,e2,e3,e4,e5⟩:=aN ((C2.out.block _ (ax X9.out.1)).trans X9.out.1)
   have SP:=hide (mr ⟨2,2,0,0,0,0⟩ ⟨2,2,0,0,0,0⟩ x2)
   rw[HV.out,show same ⟨2,2,0,0,0,0⟩ ⟨2,2,0,0,0,0⟩=true by decide]at SP
   have Y:Hid (nJ x2 (.slice tK 1 cp2) l2∧tY l2):=hide ⟨Y2.out.1.is,Y2.out.2.1⟩
   have B9:=hide (X9.out.2.trans (C2.out.mono X9.out.2.size))
   clear SC C1 Y2 X9
   go_wp2_with fail
   refine SP.out.mono ?_
   rintro E x3 ⟨rfl,d3⟩
   have Q3:=hide (QE.out x3 (C2.out.trans (d3.mono C2.out.size)))
   have D3:=hide d3
   clear SP d3 QE C2
   go_wp2_with fail
   refine Q3.out.mono ?_
   rintro E x4 ⟨rfl,d4⟩
   have d24:=D3.out.trans (d4.mono D3.out.size)
   obtain⟨x5,hx5,sx5,d5,P5⟩:=ak x4 #[.int .i64 1,.int .i64 1,.int .i64 1] 3
   have LG:=hide (afm x4.heap.size x5 P5)
   have D5:=hide (d24.trans (d5.mono d24.size))
   clear Q3 d4 d24 D3 d5 P5
   go_wp2_with fail
   refine LG.out.mono ?_
   rintro E x6 ⟨la,lk2,rfl,L6,d6⟩
   obtain⟨rs,o1,o2,o3⟩:=L6.out
   have hg:Cm.Good 0 0 (ay rs):=by rw[o3];exact sQ
   have hk:∀c∈ay rs,Cm.chk c.e c.n c.l=0:=fun c hc=>(Sto.iG hg c hc).1
   have hrl:rs.length=3:=by have:=congrArg List.length o3;unfold ay at this;rw[List.length_map]at this;exact this
   obtain⟨ic,fc⟩:=aaV o1 o2 hk
   obtain⟨vs,hsl,eQ⟩:=ic.1.gq Tryz.mo Tryz.mM 2 (by omega)
   obtain⟨ao7,cp7,hvs,_,_⟩:=eQ.shape
   have hd1:(rs.drop 2).length=1:=by rw[List.length_drop];omega
   rw[hd1]at hvs
   subst hvs
   have icd:di x6 (.slice ao7 1 cp7) (rs.drop 2):=⟨eQ,fun c hc=>ic.2 c (List.mem_of_mem_drop hc)⟩
   have fcd:dL (rs.drop 2):=fun c hc=>fc c (List.mem_of_mem_drop hc)
   obtain⟨x7,hx7,sx7,d7,P7⟩:=ak x6 #[.int .i64 2,.int .i64 2,.slice ao7 1 cp7] 52
   obtain⟨s1,s2⟩:=aho P7 (icd.below d7) fcd (by omega) (e:=2) (f:=2) ⟨by omega,by omega⟩ ⟨by omega,by omega⟩
   have d27:Below x2.heap.size x2 x7:=(D5.out.trans (d6.mono D5.out.size)).trans (d7.mono (by have:=D5.out.size;have:=d6.size;omega))
   have SS:=hide (aax _ _ l2 _ x7 (Y.out.1.below d27) s1 Y.out.2 s2 (by omega) (by
    rw[hsw.out]
    show [jQ 2 2 l3]=[(⟨2,2,ay (rs.drop 2)⟩:Orp.Se)]
    unfold jQ ay
    rw[List.map_drop]
    have:rs.map Cw.c=l3:=o3
    rw[this]
    rfl))
   have D7:=hide (B9.out.trans (d27.mono B9.out.size))
   have hsl:∀wx,(Instr.slice 22 (.slice la 3 lk2) (some (.int .i64 2)) none none).run Tryz.prog wx=.ok (.slice ao7 1 cp7) wx:=hsl
   clear LG L6 d6 o1 o2 o3 hg hk hrl ic fc eQ icd fcd d7 P7 s1 s2 d27 D5 Y hsw hd1
   go_wp2_with fail
   refine SS.out.mono ?_
   rintro E x8 ⟨rfl,d8⟩
   have D8:=hide (D7.out.trans (d8.mono D7.out.size))
   clear SS d8 D7
   go_wp2
   go_ret
   exact⟨rfl,D8.out⟩
def ax4 (rs:List Cw):Prop:=rs.length≤30∧∀c∈rs,c.l.length≤30
def axE (rs:List Cw) (w:World) (E:Ending) (w':World):Prop:=(∃b:Bool,E=.returned (.bool b)∧(b=true→ax4 rs))∧w=w'
theorem yR (v:Value)(rs:List Cw)(w:World)(h:di w v rs)(hl:rs.length≤140737488355328):
  Calls Tryz.prog 5 #[v] w (axE rs w):=by
 obtain⟨ao,cap,hvl,hcap,hcm⟩:=h.1.shape
 have HI:=hide h
 have HL:Hid (∀c∈rs,∃a k,c.v=.slice a c.l.length k):=hide fun c hc=>by
  obtain⟨a,k,e,_⟩:=(h.2 c hc).1.shape
  exact⟨a,k,e⟩
 subst hvl
 clear h
 go_enter Tryz.func5,Tryz.ntmps5
 go_wp2
 go_loopw [3] (fun iv wr=>∃i:Nat,iv=.int .i64 i∧i≤rs.length∧Hid (∀c∈rs.take i,c.l.length≤30)∧wr=w) (fun iv _=>rs.length-(intOf iv).toNat)
 case atStart=>exact⟨0,rfl,by omega,hide fun c hc=>by simp at hc,rfl⟩
 case round=>
  obtain⟨i,rfl,hi,HT,rfl⟩:=hrel
  by_cases hlt:i<rs.length
  ·obtain⟨b,off,cap',iw,_,_,_,hcell⟩:=HI.out.1.full (by omega)
   simp only[Value.slice.injEq,true_and]at iw
   obtain⟨rfl,rfl⟩:=iw
   obtain⟨c,hc⟩:∃c,rs[i]? =some c:=⟨rs[i],List.getElem?_eq_getElem hlt⟩
   obtain⟨d0,d1,d2⟩:=hcell i c hc
   obtain⟨a,k,hcv⟩:=HL.out c (List.mem_of_getElem? hc)
   rw[hcv]at d2
   have hlt':(i:Int)<rs.length:=by omega
   have hi0:(0:Int)≤(i:Int):=by omega
   by_cases h30:30<c.l.length
   ·have am3:(30:Int)<c.l.length:=by omega
    clear hcell hc
    go_wp2
    go_ret
    exact⟨⟨false,rfl,fun h=>by simp at h⟩,rfl⟩
   ·have am3:¬(30:Int)<c.l.length:=by omega
    have HT2:Hid (∀d∈rs.take (i+1),d.l.length≤30):=hide fun d hd=>by
     obtain⟨h1,h2⟩:=List.getElem?_eq_some_iff.1 hc
     rw[List.take_succ_eq_append_getElem h1]at hd
     rcases List.mem_append.1 hd with hd|hd
     ·exact HT.out d hd
     ·rw[List.mem_singleton.1 hd,h2];omega
    clear hcell hc HT
    go_wp2
    go_roundw
    case rel=>exact⟨i+1,by go_num,by omega,HT2,by trivial⟩
    case measure=>simp[intOf];omega
  ·have hlt':¬(i:Int)<rs.length:=by omega
   obtain rfl:i=rs.length:=by omega
   rw[List.take_length]at HT
   go_wp2
   go_ret
   refine⟨⟨_,rfl,fun h=>⟨?_,HT.out⟩⟩,rfl⟩
   have:=of_decide_eq_true h
   omega
theorem ajD (v:Value)(rs:List Cw)(k:Nat)(w:World)(h:di w v rs)(hf:dL rs)(hg:Cm.Good 0 0 (ay rs))(hn:rs.length≤30)(hk:k≤rs.length):
  Calls Tryz.prog 8 #[v,.int .i64 k,.int .i64 1,.int .i64 2] w fun E w'=>∃a n c,E=.returned (.tuple #[mv (jM k (.slice a n c) []),.bool true])∧Hid (jU w.heap.size w' (.slice a n c) (Sm.told 0 ((ay rs).take k)++[(2,(k:Int)+1)]))∧Below w.heap.size w w':=by
 obtain⟨w1,hw1,s1,b1,P1⟩:=ak w #[.int .i64 0,.int .i64 0,.int .u8 0,.int .i64 0,.slice none 0 0,.int .i64 0,.int .i64 0,.slice none 0 0] 26
 obtain⟨vs,hsl,isr⟩:=h.1.jb Tryz.mo Tryz.mM k hk
 have isC:di w vs (rs.take k):=⟨isr,fun c hc=>h.2 c (List.mem_of_mem_take hc)⟩
 have tl:(rs.take k).length=k:=by rw[List.length_take,Nat.min_eq_left hk]
 have hg2:Cm.Good 0 0 (ay (rs.take k)):=by rw[nA];exact Cm.gL hg k
 have hfo:Cm.fol 0 0 0 (ay (rs.take k))=(0,0):=by
  have k1:=(Cm.dZ (ay (rs.take k)) 0 0 0).2 hg2
  exact Prod.ext k1 (Cm.oI _ 0 0 0 k1)
 obtain⟨fe,hfe⟩:∃x:Int,x=0:=⟨0,rfl⟩
 obtain⟨u,hu⟩:∃u,Sm.told 0 (ay (rs.take k))=u:=⟨_,rfl⟩
 have hul:u.length≤30:=by
  rw[←hu]
  have:=qh (ay (rs.take k)) 0
  rw[nA,List.length_take]at this
  rw[nA]
  omega
 have OF:Hid (Calls Tryz.prog 25 #[vs] w1 fun E w'=>∃v',E=.returned (.tuple #[v',.agg #[.int .i64 fe,.int .i64 fe]])∧jU w1.heap.size w' v' u∧Below w1.heap.size w1 w'):=hide (by
  have:=ajU vs (rs.take k) w1 (isC.below b1) (fun c hc=>hf c (List.mem_of_mem_take hc)) (by omega)
  rw[hfo,aeb (by rw[hfo]),hu]at this
  rw[hfe]
  exact this)
 have hwr:IntKind.i64.wrap ((k:Int)+1)=(k:Int)+1:=aS _ (by omega) (by omega)
 have HU:Hid (u=Sm.told 0 ((ay rs).take k)):=hide (by rw[←hu,nA])
 have HP:=hide (And.intro P1 b1)
 have HFE:=hide hfe
 obtain⟨va,vn,vk,hv⟩:∃a n k,v=.slice a n k:=by
  obtain⟨a,k,e,_,_⟩:=h.1.shape
  exact⟨_,_,_,e⟩
 subst hv
 clear h hf hg isr isC tl hg2 hfo hu P1 b1 hfe
 go_enter Tryz.func8,Tryz.ntmps8
 go_wp2_with fail
 refine OF.out.mono ?_
 rintro E w2 ⟨v2,rfl,O2,B2⟩
 obtain⟨P1,b1⟩:=HP.out
 have z2:=B2.size
 obtain⟨w3,hw3,ah8,s3,b3,P3,c0,c1⟩:=nC w2 31 (.int .i64 0) (.int .i64 0) (.int .i64 fe) (.int .i64 fe)
 obtain⟨a2,k2,hv2,_,_⟩:=O2.row.shape
 obtain⟨w4,hw4,aue,s4,b4,P4,e4⟩:=amE w3 26 (.int .i64 0) (.int .i64 0) (.int .u8 0) (.int .i64 0) (.slice none 0 0) (.int .i64 0) (.int .i64 0) (.slice none 0 0) (.int .i64 1) (.int .i64 2) (.int .u8 1) (.int .i64 ((k:Int)+1)) v2 (.int .i64 0) (.int .i64 0) (.slice none 0 0)
 subst hv2
 rw[s3]at P4
 obtain⟨w5,qU,s5,b5,O5⟩:=zN w4 #[.int .i64 2,.int .i64 ((k:Int)+1)] 1 [(2,(k:Int)+1)] rfl rfl (by simp[maxLen])
 rw[s4,s3]at O5
 have dw:=jr (jr (jr O2 b3) b4) b5
 have HL:Hid ((u.length+[((2,(k:Int)+1):Sm.S)].length)*16≤140737488355328):=hide (by simp;omega)
 have m4:w4.cell? ⟨w2.heap.size+1,4,none⟩=some (.slice a2 u.length k2):=ai P4 4 rfl
 have r5:=aA P4 5;have r6:=aA P4 6;have r7:=aA P4 7
 have t5:w4.cell? ⟨w2.heap.size+1,5,none⟩=some (.int .i64 0):=ai P4 5 rfl
 have t6:w4.cell? ⟨w2.heap.size+1,6,none⟩=some (.int .i64 0):=ai P4 6 rfl
 have t7:w4.cell? ⟨w2.heap.size+1,7,none⟩=some (.slice none 0 0):=ai P4 7 rfl
 have u5:w4.setCell ⟨w2.heap.size+1,5,none⟩ (.int .i64 0)=w4:=aJ P4 (j:=5) rfl
 have u6:w4.setCell ⟨w2.heap.size+1,6,none⟩ (.int .i64 0)=w4:=aJ P4 (j:=6) rfl
 have u7:w4.setCell ⟨w2.heap.size+1,7,none⟩ (.slice none 0 0)=w4:=aJ P4 (j:=7) rfl
 have HH:=hide (And.intro O2 (And.intro B2 (And.intro b3 (And.intro P3 (And.intro b4 (And.intro P4 (And.intro b5 (And.intro P1 b1))))))))
 have x5:w1.heap.size≤w5.heap.size:=by omega
 clear O2 B2 b3 P3 b4 P4 b5 P1 b1 HP OF
 go_wp2_with (at_builtin;refine pF rfl (.tmp 29) (.tmp 34) rfl w1.heap.size _ u rfl dw _ [(2,(k:Int)+1)] rfl O5.row HL.out x5 ?_)
 intro v6 w6 eT eB xD
 obtain⟨O2,B2,b3,P3,b4,P4,b5,P1,b1⟩:=HH.out
 have nb:∀g,g<w1.heap.size∨w2.heap.size≤g→some g≠(Value.slice a2 u.length k2).ownBlock:=fun g hg e=>by
  have:=dM.lt O2 g e.symm
  omega
 have P4':=(xD.block _ (by omega) (nb _ (.inr (by omega)))).trans ((b5.block _ (by omega)).trans P4)
 have P3':=(xD.block _ (by omega) (nb _ (.inr (by omega)))).trans ((b5.block _ (by omega)).trans ((b4.block _ (by omega)).trans P3))
 have P1':=(xD.block _ (by omega) (nb _ (.inl (by omega)))).trans ((b5.block _ (by omega)).trans ((b4.block _ (by omega)).trans ((b3.block _ (by omega)).trans ((B2.block _ (by omega)).trans P1))))
 have z6:=xD.size
 obtain⟨a6,k6,hv6,_,_⟩:=eT.row.shape
 obtain⟨ul,auu⟩:∃n,(u++[((2,(k:Int)+1):Sm.S)]).length=n:=⟨_,rfl⟩
 rw[auu]at hv6
 clear auu
 subst hv6
 have f64:=aA P4' 4
 have m64:w6.cell? ⟨w2.heap.size+1,4,none⟩=some (.slice a2 u.length k2):=ai P4' 4 rfl
 obtain⟨V7,hV7⟩:∃V,w6.setCell ⟨w2.heap.size+1,4,none⟩ (.slice a6 ul k6)=V:=⟨_,rfl⟩
 have q7:=aH P4' 4 (.slice a6 ul k6)
 have g7:w6.grownBy _ (some (w2.heap.size+1)):=az w6 ⟨w2.heap.size+1,4,none⟩ (.slice a6 ul k6)
 rw[hV7]at q7 g7
 obtain⟨m0,m1,m2,m3,m44,m5,m6,m7⟩:=kX q7
 have P37:=(g7.block w2.heap.size (by omega) (by simp)).trans P3'
 have d0:V7.cell? ⟨w2.heap.size,0,none⟩=some (.int .i64 fe):=ai P37 0 rfl
 have d1:V7.cell? ⟨w2.heap.size,1,none⟩=some (.int .i64 fe):=ai P37 1 rfl
 have P17:=(g7.block w.heap.size (by omega) (by simp;omega)).trans P1'
 obtain⟨Z,hZ,bZ,gZ,⟨y0,y1,y2,y3,y4,y5,y6,y7⟩,fr,⟨x0,x1,x2,x3,x4,x5',x6,x7⟩⟩:=av8 P17 (.int .i64 1) (.int .i64 2) (.int .u8 1) (.int .i64 ((k:Int)+1)) (.slice a6 ul k6) (.int .i64 0) (.int .i64 0) (.slice none 0 0)
 have f0:=fr 0;have f1:=fr 1;have f2:=fr 2;have f3:=fr 3;have f4:=fr 4;have f5:=fr 5;have f6:=fr 6;have f7:=fr 7
 have pI:Below w.heap.size w w6:=(((((b1.trans (B2.mono (by omega))).trans (b3.mono (by omega))).trans (b4.mono (by omega))).trans (b5.mono (by omega))).trans (eB.mono (by omega)))
 have b0Z:Below w.heap.size w Z:=aB (aB pI g7 (by omega) (by omega)) gZ (Nat.le_refl _) (by have:=g7.size;omega)
 have hEQ:=Tryz.avm fe fe 0 0
 have hgd:=Tryz.oG
 have ne7:∀b,(Value.slice a6 ul k6).ownBlock=some b→b≠w2.heap.size+1∧w1.heap.size≤b∧b<w6.heap.size:=fun b hb=>by
  have hlt:=dM.lt eT b hb
  refine⟨fun e=>?_,by omega,hlt.2⟩
  obtain⟨cs,hc⟩:=dM.type eT hb
  rw[e,P4']at hc
  simp only[Option.some.injEq,Obj.cells.injEq]at hc
  exact absurd hc.2.1 (by decide)
 have je:=eT.agree (w':=V7) fun b hb=>g7.block b (ne7 b hb).2.2 (by have:=(ne7 b hb).1;simp;omega)
 have atH:=je.agree (w':=Z) fun b hb=>gZ.block b (by have:=(ne7 b hb).2.2;have:=g7.size;omega) (by have:=(ne7 b hb).2.1;simp;omega)
 have PZ:=(gZ.block (w2.heap.size+1) (by have:=g7.size;omega) (by simp;omega)).trans q7
 have P3Z:=(gZ.block w2.heap.size (by have:=g7.size;omega) (by simp;omega)).trans P37
 obtain⟨n0,n1,n2,n3,n4,n5,n6,n7⟩:=kX PZ
 have e0:Z.cell? ⟨w2.heap.size,0,none⟩=some (.int .i64 fe):=ai P3Z 0 rfl
 have e1:Z.cell? ⟨w2.heap.size,1,none⟩=some (.int .i64 fe):=ai P3Z 1 rfl
 have R:=hide (And.intro (zq (base':=w.heap.size) atH (by omega)) b0Z)
 clear O2 B2 b3 P3 b4 P4 b5 P1 b1 nb P4' P3' P1' q7 g7 P37 P17 bZ gZ fr pI b0Z ne7 je atH eT eB xD HH O5 dw HL PZ P3Z
 go_wp2_with fail
 go_region_held3 (fun w'=>(w'.cell? ⟨w2.heap.size+1,0,none⟩=some (.int .i64 1)∧w'.cell? ⟨w2.heap.size+1,1,none⟩=some (.int .i64 2)∧w'.cell? ⟨w2.heap.size+1,2,none⟩=some (.int .u8 1)∧w'.cell? ⟨w2.heap.size+1,3,none⟩=some (.int .i64 ((k:Int)+1))∧w'.cell? ⟨w2.heap.size+1,4,none⟩=some (.slice a6 ul k6)∧w'.cell? ⟨w2.heap.size+1,5,none⟩=some (.int .i64 0)∧w'.cell? ⟨w2.heap.size+1,6,none⟩=some (.int .i64 0)∧w'.cell? ⟨w2.heap.size+1,7,none⟩=some (.slice none 0 0))∧w'.cell? ⟨w2.heap.size,0,none⟩=some (.int .i64 fe)∧w'.cell? ⟨w2.heap.size,1,none⟩=some (.int .i64 fe)) (first|exact⟨⟨m0,m1,m2,m3,m44,m5,m6,m7⟩,d0,d1⟩|exact⟨⟨n0,n1,n2,n3,n4,n5,n6,n7⟩,e0,e1⟩|go_keep)
  (fail)
 go_wp2
 refine bodyPost_ret (v:=.tuple #[mv (jM k (.slice a6 ul k6) []),.bool ((fe==0)&&(fe==0))]) (by simp[results,Tryz.results8,go_sem,x0,x1,x2,x3,x4,x5',x6,x7,mv,jM]) rfl ?_
 exact⟨_,_,_,by rw[HFE.out];rfl,hide (by rw[←HU.out];exact R.out.1),R.out.2.drew⟩
def ah3 (W:World) (Z:Nat→Prop) (v:Value) (l:List Cm.Cv):Prop:=
 ∃B rs,bn 35 B W v rs∧dR B W rs∧ay rs=l∧(∀b,v.ownBlock=some b→Z b)∧∀c∈rs,∀b,c.v.ownBlock=some b→Z b
theorem ah3.keep {W W':World}{Z:Nat→Prop}{v:Value}{l:List Cm.Cv}(h:ah3 W Z v l)(hz:∀g,Z g→W'.heap[g]? =W.heap[g]?):ah3 W' Z v l:=by
 obtain⟨B,rs,h1,h2,h3,h4,h5⟩:=h
 exact⟨B,rs,bN h1 fun b hb=>hz b (h4 b hb),fun c hc=>bN (h2 c hc) fun b hb=>hz b (h5 c hc b hb),h3,h4,h5⟩
def iZ (w0 W:World) (p q:Nat) (l:List Cm.Cv) (k i X:Nat) (d:Bool) (es fs:Int) (v:Value):Prop:=
 ∃Z,lM w0 W p q l k i Z∧Z X∧w0.heap.size≤X∧W.heap[X]? =some (.cells #[.int .i64 es,.int .i64 fs,v] 52 (0,0))∧(d=true→k<l.length→es=2∧fs=k∧ah3 W Z v (l.drop k))
section
variable {w0 W W':World} {p q k i X:Nat} {l:List Cm.Cv} {d:Bool} {es fs:Int} {v:Value}
theorem iZ.out (h:iZ w0 W p q l k i X d es fs v):Out (fun g=>g=q) w0 W:=by
 obtain⟨Z,h1,_⟩:=h
 exact h1.out
theorem iZ.below (h:iZ w0 W p q l k i X d es fs v)(hb:Below W.heap.size W W'):iZ w0 W' p q l k i X d es fs v:=by
 obtain⟨Z,h1,h2,h3,h4,h5⟩:=h
 have hz:∀g,Z g→W'.heap[g]? =W.heap[g]? :=fun g e=>by
  obtain⟨F,s,_,_,_,a⟩:=h1
  exact hb.block g (a g e).2
 exact⟨Z,h1.below hb,h2,h3,(hz X h2).trans h4,fun e1 e2=>by
  obtain⟨a,b,c⟩:=h5 e1 e2
  exact⟨a,b,c.keep hz⟩⟩
theorem iZ.first (h:lM w0 W p q l k i (fun _=>False))(hb:Below W.heap.size W W')(hX:X=W.heap.size)(hs:X<W'.heap.size)(hc:W'.heap[X]? =some (.cells #[.int .i64 es,.int .i64 fs,v] 52 (0,0))):iZ w0 W' p q l k i X false es fs v:=by
 refine⟨fun g=>g=X,h.more hb fun g e=>.inr ⟨by omega,by omega⟩,rfl,?_,hc,fun e=>by simp at e⟩
 have:=h.out.size
 omega
theorem anG (h:iZ w0 W p q l k i X d es fs v)(hi:i<4)(hg:Cm.Good 0 0 l)(hk:k≤l.length)(hl:l.length≤30){m:Mw}{c:Int}(im:fw W m)(fm:dx m)(ck:Mm.Ck m.m c)
  (h0:i=0→qD ⟨2,3,0,1,0,0⟩ m c=true∧Fr (Sm.told 0 l) l.length m.ss m.n (k:Nat)):
  Calls Tryz.prog 13 #[.pointer (some ⟨p,0,none⟩),mv m] W fun E w'=>E=.returned (.tuple #[vp (pgL k (i+1)),.int .i64 0])∧iZ w0 w' p q l k (i+1) X d es fs v:=by
 obtain⟨Z,h1,h2,h3,h4,h5⟩:=h
 refine(amT h1 hi hg hk hl im fm ck h0).mono ?_
 rintro E w' ⟨rfl,j1,j2,j3⟩
 exact⟨rfl,Z,j1,h2,h3,(j3 X h2).trans h4,fun e1 e2=>by
  obtain⟨a,b,c⟩:=h5 e1 e2
  exact⟨a,b,c.keep j3⟩⟩
theorem ang (h:iZ w0 W p q l k i X d es fs v)(hi:i≤4):Calls Tryz.prog 12 #[.pointer (some ⟨p,0,none⟩)] W fun E w'=>E=.returned (vp (pgL k i))∧Below W.heap.size W w':=by
 obtain⟨Z,h1,_⟩:=h
 exact uM h1 hi
theorem arW (h:iZ w0 W p q l k i X d es fs v)(hi:i≤2):Calls Tryz.prog 17 #[.pointer (some ⟨p,0,none⟩)] W fun E w'=>∃v rs,E=.returned v∧fT W.heap.size w' v rs∧ay rs=l∧Below W.heap.size W w':=by
 obtain⟨Z,⟨F,s,h1,h2,h3,h4⟩,_⟩:=h
 have e:s.l=l:=by
  rw[h3]
  obtain rfl|rfl|rfl:i=0∨i=1∨i=2:=by omega
  all_goals rfl
 have:=aab p q F W s h1.ps (h1.jV.qR (by omega))
 rw[e]at this
 exact this
theorem asA (h:iZ w0 W p q l k 4 X d es fs v)(hk:k≤l.length):Calls Tryz.prog 20 #[.pointer (some ⟨p,0,none⟩)] W fun E w'=>E=.returned (.int .i64 k)∧Below W.heap.size W w':=by
 obtain⟨Z,⟨F,s,h1,h2,h3,h4⟩,_⟩:=h
 have:=afL p q F W s h1.ps (h1.jV.qR (by omega))
 have e:s.l=l.take k:=h3
 rw[e,List.length_take,Nat.min_eq_left hk]at this
 exact this
theorem asE (h:iZ w0 W p q l k 4 X d es fs v):Calls Tryz.prog 19 #[.pointer (some ⟨q,0,none⟩),.int .i64 3] W fun E w'=>∃v,E=.returned v∧Own .u8 5 W.heap.size w' v (Orp.secs (ssL l k 4))∧Below W.heap.size W w':=by
 obtain⟨Z,⟨F,s,h1,h2,h3,h4⟩,_⟩:=h
 obtain⟨F1,d1,_,_⟩:=h1.ps.disk h1.n0
 have hR:=h1.jV.qR (by omega)
 have:=yZ q F1 W s.d 3 d1 (fun f=>Nat.le_trans (hR.1.1.1 f) (by decide))
 have hdu:duB s.d 3=Orp.secs (ssL l k 4):=by
  have:=h1.jV.kR.2.2
  unfold duB
  rw[if_neg (by decide)]
  exact this
 rw[hdu]at this
 exact this
theorem iZ.told {W1 W2 V:World}{a:Value}{es' fs':Int}(h:iZ w0 W p q l k i X d es fs v)(b1:Below W.heap.size W W1)(b2:Below W1.heap.size W1 W2)(g:W2.grownBy V (some X))(hV:V.heap[X]? =some (.cells #[.int .i64 es',.int .i64 fs',a] 52 (0,0)))(hp:0<w0.heap.size)
  (hs:k<l.length→es'=2∧fs'=k∧∃rs,bn 35 W1.heap.size W2 a rs∧dR W1.heap.size W2 rs∧ay rs=l.drop k):iZ w0 V p q l k i X true es' fs' a:=by
 obtain⟨Z,h1,h2,h3,h4,h5⟩:=h
 have hX:X<W.heap.size:=ax h4
 have z1:=b1.size
 have z2:=b2.size
 have b02:Below W.heap.size W W2:=b1.trans (b2.mono z1)
 refine⟨fun g=>Z g∨(W1.heap.size≤g∧g<W2.heap.size),((h1.more b02 (Z':=fun g=>Z g∨(W1.heap.size≤g∧g<W2.heap.size)) fun g e=>?_).put g (.inl h2) h3 hp),.inl h2,h3,hV,fun _ e2=>?_⟩
 ·rcases e with e|⟨e1,e2⟩
  ·exact .inl e
  ·exact .inr ⟨by omega,e2⟩
 ·obtain⟨r1,r2,rs,r3,r4,r5⟩:=hs e2
  have n1:∀b,a.ownBlock=some b→W1.heap.size≤b∧b<W2.heap.size:=fun b hb=>World.ownsRow.lt r3 b hb
  have n2:∀c∈rs,∀b,c.v.ownBlock=some b→W1.heap.size≤b∧b<W2.heap.size:=fun c hc b hb=>World.ownsRow.lt (r4 c hc) b hb
  have keep:∀b,W1.heap.size≤b∧b<W2.heap.size→V.heap[b]? =W2.heap[b]? :=fun b hb=>g.block b hb.2 (by simp;omega)
  exact⟨r1,r2,W1.heap.size,rs,bN r3 fun b hb=>keep b (n1 b hb),fun c hc=>bN (r4 c hc) fun b hb=>keep b (n2 c hc b hb),r5,fun b hb=>.inr (n1 b hb),fun c hc b hb=>.inr (n2 c hc b hb)⟩
end
theorem arY {l:List Cm.Cv}{k:Nat}(hg:Cm.Good 0 0 l)(h1:Cm.lastE 0 l≤1)(hn:l.length≤30):Orp.Ris 0 (ssL l k 4)∧(Orp.secs (ssL l k 4)).length≤1000000:=by
 show Orp.Ris 0 (if k<l.length then [jQ 2 k l]else [])∧(Orp.secs (if k<l.length then [jQ 2 k l]else [])).length≤1000000
 split
 ·rename_i h
  have c:=acd (e:=2) (by decide) (by decide) hg (by omega) h
  refine⟨⟨c,by show(0:Int)<2;decide,trivial⟩,?_⟩
  rw[Orp.nO]
  have h1:=Orp.aaB c
  have h2:(jQ 2 k l).cs.length≤l.length:=by show(l.drop k).length≤_;rw[List.length_drop];omega
  omega
 ·exact⟨trivial,by decide⟩
theorem apo {w w':World}{r:List Cw}{x:Pm.Pg}{E:Ending}{k:Nat}(hx:x.e=2∧x.f=k)(h:ais w r x E w'):
  ∃(es fs:Int) (a:Option Addr) (n c:Nat),E=.returned (.tuple #[.agg #[.int .i64 es,.int .i64 fs,.slice a n c],.bool (decide (k<r.length)),.int .i64 0])∧(k<r.length→es=2∧fs=k∧∃rs,bn 35 w.heap.size w' (.slice a n c) rs∧dR w.heap.size w' rs∧ay rs=(ay r).drop k)∧Below w.heap.size w w':=by
 rcases h with⟨h1,rfl,b⟩|⟨h1,a,n,c,rs,rfl,H,b⟩
 ·have hn:¬k<r.length:=by omega
  exact⟨0,0,none,0,0,by rw[decide_eq_false hn],fun e=>absurd e hn,b⟩
 ·have hn:k<r.length:=by omega
  refine⟨x.e,x.f,a,n,c,by rw[decide_eq_true hn],fun _=>⟨hx.1,hx.2,rs,H.out.1,H.out.2.1,?_⟩,b⟩
  rw[H.out.2.2,hx.2]
  rfl
def LoX (w0:World) (p q:Nat) (l:List Cm.Cv) (k X P n:Nat) (y:Pm.Pg) (E:Ending) (w6:World):Prop:=
 ∃(es fs:Int) (a:Option Addr) (m c:Nat),E=.returned (.tuple #[.agg #[.int .i64 es,.int .i64 fs,.slice a m c],.bool (decide (k<n)),.int .i64 0])∧(∃V,((w6.setCell ⟨X,0,none⟩ (.int .i64 es)).setCell ⟨X,1,none⟩ (.int .i64 fs)).setCell ⟨X,2,none⟩ (.slice a m c)=V∧Hid (iZ w0 V p q l k 1 X true es fs (.slice a m c))∧(V.cell? ⟨P,0,none⟩=some (.int .i64 y.e)∧V.cell? ⟨P,1,none⟩=some (.int .u8 y.r)∧V.cell? ⟨P,2,none⟩=some (.int .i64 y.a)∧V.cell? ⟨P,3,none⟩=some (.int .u8 y.p)∧V.cell? ⟨P,4,none⟩=some (.int .i64 y.f)∧V.cell? ⟨P,5,none⟩=some (.int .i64 y.b)))∧(w6.frozen? ⟨X,0,none⟩=false∧w6.frozen? ⟨X,1,none⟩=false∧w6.frozen? ⟨X,2,none⟩=false)∧(∃u0 u1 u2,w6.cell? ⟨X,0,none⟩=some u0∧w6.cell? ⟨X,1,none⟩=some u1∧w6.cell? ⟨X,2,none⟩=some u2)∧(w6.cell? ⟨P,0,none⟩=some (.int .i64 y.e)∧w6.cell? ⟨P,1,none⟩=some (.int .u8 y.r)∧w6.cell? ⟨P,2,none⟩=some (.int .i64 y.a)∧w6.cell? ⟨P,3,none⟩=some (.int .u8 y.p)∧w6.cell? ⟨P,4,none⟩=some (.int .i64 y.f)∧w6.cell? ⟨P,5,none⟩=some (.int .i64 y.b))
theorem aoL {w0 W2 W:World}{p q k X P n:Nat}{l:List Cm.Cv}{d:Bool}{es fs:Int}{v vl:Value}{rs:List Cw}{y:Pm.Pg}(h:iZ w0 W2 p q l k 1 X d es fs v)(hp:0<w0.heap.size)(hy:eU y∧Pm.chk y=0)(hyp:y.p=2∧y.e=2∧y.f=k)(hP:W2.heap[P]? =some (.cells (cp y) 46 (0,0)))(g1:fT W2.heap.size W vl rs)(g2:ay rs=l)(g3:Below W2.heap.size W2 W)(hm:eH W)(hg:Cm.Good 0 0 l)(hk:k≤l.length)(hl:l.length≤30)(hn:l.length=n):
  Calls Tryz.prog 16 #[vl,vp y] W (LoX w0 p q l k X P n y):=by
 have hl1:rs.length=l.length:=by rw[←g2];unfold ay;rw[List.length_map]
 refine(acB vl rs y W ⟨g1.c.row,fun c hc=>⟨(g1.o c hc).is,g1.i c hc⟩⟩ g1.f (by omega) (by rw[g2];exact hg) hy.1 hy.2 hyp.1 hm (by rw[hyp.2.2];omega) (by rw[hyp.2.2];omega)).mono ?_
 intro E w6 hL
 obtain⟨es,fs,a,m,c,rfl,h2,h3⟩:=apo ⟨hyp.2.1,hyp.2.2⟩ hL
 rw[hl1,g2]at h2
 have b6:=g3.trans (h3.mono g3.size)
 obtain⟨Z,i1,i2,i3,i4,i5⟩:=h.below b6
 obtain⟨V,hV,bV,gV,⟨y0,y1,y2⟩,⟨f0,f1,f2⟩,_⟩:=dP i4 (.int .i64 es) (.int .i64 fs) (.slice a m c)
 have cP:=(b6.block P (ax hP)).trans hP
 have nP:P≠X:=fun e=>by
  rw[e,i4]at cP
  simp only[Option.some.injEq,Obj.cells.injEq]at cP
  exact absurd cP.2.1 (by decide)
 have cV:=(gV.block P (ax cP) (by simpa using nP)).trans cP
 obtain⟨q0,q1,q2,q3,q4,q5⟩:=aN cP
 obtain⟨r0,r1,r2,r3,r4,r5⟩:=aN cV
 rw[hl1,hn]
 exact⟨es,fs,a,m,c,rfl,⟨V,hV,hide (iZ.told h g3 h3 gV bV hp h2),r0,r1,r2,r3,r4,r5⟩,⟨f0,f1,f2⟩,⟨_,_,_,y0,y1,y2⟩,q0,q1,q2,q3,q4,q5⟩
theorem auv (k i:Nat)(hi:i<4)(hk:k≤30):ad5 (pgL k (i+1))=3-(i:Int):=by
 unfold ad5
 rw[if_neg (by rw[(abX k (i+1) hk).2];simp)]
 obtain rfl|rfl|rfl|rfl:i=0∨i=1∨i=2∨i=3:=by omega
 all_goals rfl
end Go.Proofs.YtmngcecomcadkaaGreatDoor
