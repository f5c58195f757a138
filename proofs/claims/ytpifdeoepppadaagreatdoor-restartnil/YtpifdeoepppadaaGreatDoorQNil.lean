/- Proved: a state that is not there, or that nobody made, refuses every call. Its condition: the start, in which the variable page.most holds what its text lays (a card). -/
import Derived.Test.YtpifdeoepppadaaGreatDoorH12
import Derived.Test.YtpifdeoepppadaaGreatDoorH33
import Derived.Test.YtpifdeoepppadaaGreatDoorH21
import Derived.Test.YtpifdeoepppadaaGreatDoorH26
import Derived.Test.YtpifdeoepppadaaGreatDoorCards
import Derived.Test.YtpifdeoepppadaaGreatDoorTie
import Derived.Deep.DeepHandedRow
import Derived.Lib.LaidTab
import Derived.Shelf.LaysM
import Derived.Test.YtpifdeoepppadaaGreatDoorRows
import Derived.ProofKit
import Derived.OpenShut
import Derived.ShutString
import Derived.ChangeOld
import Derived.Below
import Derived.SizedLaws
import Derived.Test.YtpifdeoepppadaaGreatDoorH24
set_option maxRecDepth 100000
set_option maxHeartbeats 8000000
namespace Go.Proofs.YtpifdeoepppadaaGreatDoor
open Go.RowKit
set_option linter.unusedVariables false
def zst:Array Value:=#[.pointer none,.bool false,.int .i64 0,.int .u8 0,.int .i64 0,.int .u8 0,.int .i64 0,.int .i64 0,.pointer none,.int .i64 0,.slice none 0 0,.pointer none,.pointer none]
def uh (w:World) (v:Value):Prop:=v=.pointer none∨∃p,v=.pointer (some ⟨p,0,none⟩)∧w.heap[p]? =some (.cells zst 60 (0,0))
theorem uh.below {w w':World}{v:Value}(h:uh w v)(hb:Below w.heap.size w w'):uh w' v:=by
 rcases h with h|⟨p,h1,h2⟩
 ·exact .inl h
 ·exact .inr ⟨p,h1,(hb.block p (aA h2)).trans h2⟩
theorem uh.at {w:World}{v:Value}(h:uh w v):v=.pointer none∨∃p,v=.pointer (some ⟨p,0,none⟩)∧w.cell? ⟨p,0,none⟩=some (.pointer none):=by
 rcases h with h|⟨p,h1,h2⟩
 ·exact .inl h
 ·exact .inr ⟨p,h1,ai h2 0 rfl⟩
theorem uh.ptr {w:World}{v:Value}(h:uh w v):∃o,v=.pointer o:=by
 rcases h with h|⟨p,h1,h2⟩
 ·exact⟨none,h⟩
 ·exact⟨_,h1⟩
theorem zL (v:Value)(w:World)(h:uh w v)(B:Nat)(l:List Value):Run B (fun e W=>e=1∧w=W) (.func (.func 51) #[v] #[]::l) w:=by
 refine Run.cons (enters_of Tryz.func51 (by kernel_rfl) rfl) (by simp) ((am7 v w h.at).mono ?_)
 rintro E w' ⟨rfl,rfl⟩
 exact⟨1,rfl,rfl,.inl ⟨by decide,rfl,rfl⟩⟩
theorem azZ (v:Value)(w:World)(h:uh w v):Calls Tryz.prog 23 #[v] w fun E w'=>E=.returned (vp Pm.no)∧Below w.heap.size w w':=by
 obtain⟨w1,hw1,s1,b1,P1⟩:=ay w #[.int .i64 0,.int .u8 0,.int .i64 0,.int .u8 0,.int .i64 0,.int .i64 0] 41
 obtain⟨V',hV',ic,dK,⟨a0,a1,a2,a3,a4,a5⟩,fr,⟨z0,z1,z2,z3,z4,z5⟩⟩:=lL P1 (.int .i64 0) (.int .u8 0) (.int .i64 0) (.int .u8 0) (.int .i64 0) (.int .i64 0)
 have f0:=fr 0;have f1:=fr 1;have f2:=fr 2;have f3:=fr 3;have f4:=fr 4;have f5:=fr 5
 have BV:=hide (aK b1 dK (Nat.le_refl _) (by omega))
 have HM:=hide (nL v w1 (h.below b1).at)
 clear h b1 P1 ic dK fr s1
 go_enter Tryz.func23,Tryz.ntmps23
 go_wp2_with fail
 refine HM.out.mono ?_
 rintro E w2 ⟨rfl,rfl⟩
 clear HM
 go_wp2
 refine bodyPost_ret (v:=vp Pm.no) (by simp[results,Tryz.results23,go_sem,z0,z1,z2,z3,z4,z5,vp,Pm.no]) rfl ?_
 exact⟨rfl,BV.out⟩
theorem aA4 (v:Value)(w:World)(h:uh w v):Calls Tryz.prog 20 #[v] w fun E w'=>E=.returned (.slice none 0 0)∧Below w.heap.size w w':=by
 have HM:=hide (nL v w h.at)
 clear h
 go_enter Tryz.func20,Tryz.ntmps20
 go_wp2_with fail
 refine HM.out.mono ?_
 rintro E w2 ⟨rfl,rfl⟩
 clear HM
 go_wp2
 go_ret
 exact⟨rfl,Below.refl _ _⟩
theorem aAT (v:Value)(w:World)(h:uh w v):Calls Tryz.prog 19 #[v] w fun E w'=>E=.returned (.int .i64 0)∧Below w.heap.size w w':=by
 have HM:=hide (nL v w h.at)
 clear h
 go_enter Tryz.func19,Tryz.ntmps19
 go_wp2_with fail
 refine HM.out.mono ?_
 rintro E w2 ⟨rfl,rfl⟩
 clear HM
 go_wp2
 go_ret
 exact⟨rfl,Below.refl _ _⟩
theorem aBi (v:Value)(w:World)(h:uh w v)(k:ByteArray):Calls Tryz.prog 14 #[v,.string k] w fun E w'=>E=.returned (.tuple #[.string ⟨#[]⟩,.bool false])∧Below w.heap.size w w':=by
 have HM:=hide (nL v w h.at)
 clear h
 go_enter Tryz.func14,Tryz.ntmps14
 go_wp2_with fail
 refine HM.out.mono ?_
 rintro E w2 ⟨rfl,rfl⟩
 clear HM
 go_wp2
 go_ret2
 exact⟨rfl,Below.refl _ _⟩
theorem azQ (v:Value)(w:World)(h:uh w v):Calls Tryz.prog 21 #[v] w fun E w'=>E=.returned (.slice none 0 0)∧Below w.heap.size w w':=by
 have HM:=hide (nL v w h.at)
 clear h
 go_enter Tryz.func21,Tryz.ntmps21
 go_wp2_with fail
 refine HM.out.mono ?_
 rintro E w2 ⟨rfl,rfl⟩
 clear HM
 go_wp2
 go_ret
 exact⟨rfl,Below.refl _ _⟩
theorem aBk (v:Value)(w:World)(h:uh w v)(x:Pm.Pg):Calls Tryz.prog 15 #[v,vp x] w fun E w'=>E=.returned (.int .i64 1)∧Below w.heap.size w w':=by
 have qf:∀(fn:Fn) (first cap:Array Value) (w:World),(Instr.makeFunc fn first cap).run Tryz.prog w=.ok (.func fn first cap) w:=fun _ _ _ _=>rfl
 obtain⟨o,rfl⟩:=h.ptr
 obtain⟨w1,hw1,s1,b1,P1⟩:=ay w #[.pointer o] 25
 obtain⟨w2,hw2,s2,b2,P2⟩:=ay w1 (cp x) 41
 obtain⟨w3,hw3,s3,b3,P3⟩:=ay w2 #[.func (.func 51) #[.pointer o] #[],.func (.func 76) #[] #[.pointer (some ⟨w.heap.size+1,0,none⟩)],.func (.func 78) #[] #[.pointer (some ⟨w.heap.size,0,none⟩),.pointer (some ⟨w.heap.size+1,0,none⟩)],.func (.func 80) #[] #[.pointer (some ⟨w.heap.size,0,none⟩),.pointer (some ⟨w.heap.size+1,0,none⟩)]] 134
 have z2:w2.heap.size=w.heap.size+2:=by omega
 have z3:w3.heap.size=w.heap.size+3:=by omega
 rw[z2]at P3
 have B:Below w.heap.size w w3:=(b1.trans (b2.mono (by omega))).trans (b3.mono (by omega))
 have c1:w2.cell? ⟨w.heap.size,0,none⟩=some (.pointer o):=ai ((b2.block _ (by omega)).trans P1) 0 rfl
 have HC:=hide (kJ (.pointer o) 0 (w.heap.size+2) 4 _ w3 _ rfl (by omega) P3 (zL (.pointer o) w3 (h.below B) _ _) (fun W k=>by simp at k))
 have HB:=hide B
 clear h B b1 P1 b2 P2 b3 P3 s2 s3 z3
 unfold vp
 unfold cp at hw2
 go_enter Tryz.func15,Tryz.ntmps15
 go_wp2_with fail
 refine HC.out.mono ?_
 rintro E w' ⟨e,W,rfl,⟨rfl,rfl⟩,⟨_,rfl⟩|⟨k,_⟩⟩
 ·clear HC
  go_wp2
  go_ret
  exact⟨rfl,HB.out⟩
 ·simp at k
theorem aBI (v:Value)(w:World)(h:uh w v)(a:Option Addr)(n c:Nat):Calls Tryz.prog 10 #[v,.slice a n c] w fun E w'=>E=.returned (.int .i64 1)∧Below w.heap.size w w':=by
 have qf:∀(fn:Fn) (first cap:Array Value) (w:World),(Instr.makeFunc fn first cap).run Tryz.prog w=.ok (.func fn first cap) w:=fun _ _ _ _=>rfl
 obtain⟨o,rfl⟩:=h.ptr
 obtain⟨w1,hw1,s1,b1,P1⟩:=ay w #[.pointer o] 25
 obtain⟨w2,hw2,s2,b2,P2⟩:=ay w1 #[.slice a n c] 43
 obtain⟨w3,hw3,s3,b3,P3⟩:=ay w2 #[.func (.func 51) #[.pointer o] #[],.func (.func 52) #[] #[.pointer (some ⟨w.heap.size,0,none⟩),.pointer (some ⟨w.heap.size+1,0,none⟩)],.func (.func 55) #[] #[.pointer (some ⟨w.heap.size,0,none⟩),.pointer (some ⟨w.heap.size+1,0,none⟩)],.func (.func 59) #[] #[.pointer (some ⟨w.heap.size,0,none⟩),.pointer (some ⟨w.heap.size+1,0,none⟩)],.func (.func 61) #[] #[.pointer (some ⟨w.heap.size,0,none⟩),.pointer (some ⟨w.heap.size+1,0,none⟩)]] 134
 have z2:w2.heap.size=w.heap.size+2:=by omega
 have z3:w3.heap.size=w.heap.size+3:=by omega
 rw[z2]at P3
 have B:Below w.heap.size w w3:=(b1.trans (b2.mono (by omega))).trans (b3.mono (by omega))
 have c1:w2.cell? ⟨w.heap.size,0,none⟩=some (.pointer o):=ai ((b2.block _ (by omega)).trans P1) 0 rfl
 have HC:=hide (kJ (.pointer o) 0 (w.heap.size+2) 5 _ w3 _ rfl (by omega) P3 (zL (.pointer o) w3 (h.below B) _ _) (fun W k=>by simp at k))
 have HB:=hide B
 clear h B b1 P1 b2 P2 b3 P3 s2 s3 z3
 go_enter Tryz.func10,Tryz.ntmps10
 go_wp2_with fail
 refine HC.out.mono ?_
 rintro E w' ⟨e,W,rfl,⟨rfl,rfl⟩,⟨_,rfl⟩|⟨k,_⟩⟩
 ·clear HC
  go_wp2
  go_ret
  exact⟨rfl,HB.out⟩
 ·simp at k
theorem azw (v:Value)(w:World)(h:uh w v)(u:Int):Calls Tryz.prog 12 #[v,.int .i64 u] w fun E w'=>E=.returned (.int .i64 1)∧Below w.heap.size w w':=by
 have qf:∀(fn:Fn) (first cap:Array Value) (w:World),(Instr.makeFunc fn first cap).run Tryz.prog w=.ok (.func fn first cap) w:=fun _ _ _ _=>rfl
 obtain⟨o,rfl⟩:=h.ptr
 obtain⟨w1,hw1,s1,b1,P1⟩:=ay w #[.pointer o] 25
 obtain⟨w2,hw2,s2,b2,P2⟩:=ay w1 #[.int .i64 u] 3
 obtain⟨w3,hw3,s3,b3,P3⟩:=ay w2 #[.func (.func 51) #[.pointer o] #[],.func (.func 63) #[] #[.pointer (some ⟨w.heap.size,0,none⟩),.pointer (some ⟨w.heap.size+1,0,none⟩)],.func (.func 65) #[] #[.pointer (some ⟨w.heap.size,0,none⟩),.pointer (some ⟨w.heap.size+1,0,none⟩)],.func (.func 67) #[] #[.pointer (some ⟨w.heap.size,0,none⟩),.pointer (some ⟨w.heap.size+1,0,none⟩)]] 134
 have z2:w2.heap.size=w.heap.size+2:=by omega
 have z3:w3.heap.size=w.heap.size+3:=by omega
 rw[z2]at P3
 have B:Below w.heap.size w w3:=(b1.trans (b2.mono (by omega))).trans (b3.mono (by omega))
 have c1:w2.cell? ⟨w.heap.size,0,none⟩=some (.pointer o):=ai ((b2.block _ (by omega)).trans P1) 0 rfl
 have HC:=hide (kJ (.pointer o) 0 (w.heap.size+2) 4 _ w3 _ rfl (by omega) P3 (zL (.pointer o) w3 (h.below B) _ _) (fun W k=>by simp at k))
 have HB:=hide B
 clear h B b1 P1 b2 P2 b3 P3 s2 s3 z3
 go_enter Tryz.func12,Tryz.ntmps12
 go_wp2_with fail
 refine HC.out.mono ?_
 rintro E w' ⟨e,W,rfl,⟨rfl,rfl⟩,⟨_,rfl⟩|⟨k,_⟩⟩
 ·clear HC
  go_wp2
  go_ret
  exact⟨rfl,HB.out⟩
 ·simp at k
theorem ayA (v:Value)(w:World)(h:uh w v)(u:Int):Calls Tryz.prog 13 #[v,.int .i64 u] w fun E w'=>E=.returned (.int .i64 1)∧Below w.heap.size w w':=by
 have qf:∀(fn:Fn) (first cap:Array Value) (w:World),(Instr.makeFunc fn first cap).run Tryz.prog w=.ok (.func fn first cap) w:=fun _ _ _ _=>rfl
 obtain⟨o,rfl⟩:=h.ptr
 obtain⟨w1,hw1,s1,b1,P1⟩:=ay w #[.pointer o] 25
 obtain⟨w2,hw2,s2,b2,P2⟩:=ay w1 #[.int .i64 u] 3
 obtain⟨w3,hw3,s3,b3,P3⟩:=ay w2 #[.func (.func 51) #[.pointer o] #[],.func (.func 69) #[] #[.pointer (some ⟨w.heap.size,0,none⟩),.pointer (some ⟨w.heap.size+1,0,none⟩)],.func (.func 70) #[] #[.pointer (some ⟨w.heap.size,0,none⟩),.pointer (some ⟨w.heap.size+1,0,none⟩)],.func (.func 72) #[] #[.pointer (some ⟨w.heap.size,0,none⟩),.pointer (some ⟨w.heap.size+1,0,none⟩)],.func (.func 49) #[.pointer o] #[]] 134
 have z2:w2.heap.size=w.heap.size+2:=by omega
 have z3:w3.heap.size=w.heap.size+3:=by omega
 rw[z2]at P3
 have B:Below w.heap.size w w3:=(b1.trans (b2.mono (by omega))).trans (b3.mono (by omega))
 have c1:w2.cell? ⟨w.heap.size,0,none⟩=some (.pointer o):=ai ((b2.block _ (by omega)).trans P1) 0 rfl
 have HC:=hide (kJ (.pointer o) 0 (w.heap.size+2) 5 _ w3 _ rfl (by omega) P3 (zL (.pointer o) w3 (h.below B) _ _) (fun W k=>by simp at k))
 have HB:=hide B
 clear h B b1 P1 b2 P2 b3 P3 s2 s3 z3
 go_enter Tryz.func13,Tryz.ntmps13
 go_wp2_with fail
 refine HC.out.mono ?_
 rintro E w' ⟨e,W,rfl,⟨rfl,rfl⟩,⟨_,rfl⟩|⟨k,_⟩⟩
 ·clear HC
  go_wp2
  go_ret
  exact⟨rfl,HB.out⟩
 ·simp at k
theorem azN (v:Value)(w:World)(h:uh w v)(u e f:Int)(a:Option Addr)(n c:Nat):Calls Tryz.prog 18 #[v,.int .i64 u,.agg #[.int .i64 e,.int .i64 f,.slice a n c]] w fun E w'=>E=.returned (.int .i64 1)∧Below w.heap.size w w':=by
 have qf:∀(fn:Fn) (first cap:Array Value) (w:World),(Instr.makeFunc fn first cap).run Tryz.prog w=.ok (.func fn first cap) w:=fun _ _ _ _=>rfl
 obtain⟨o,rfl⟩:=h.ptr
 obtain⟨w1,hw1,s1,b1,P1⟩:=ay w #[.pointer o] 25
 obtain⟨w2,hw2,s2,b2,P2⟩:=ay w1 #[.int .i64 u] 3
 obtain⟨w3,hw3,s3,b3,P3⟩:=ay w2 #[.int .i64 e,.int .i64 f,.slice a n c] 45
 obtain⟨w4,hw4,s4,b4,P4⟩:=ay w3 #[.func (.func 51) #[.pointer o] #[],.func (.func 85) #[] #[.pointer (some ⟨w.heap.size+2,0,none⟩)],.func (.func 87) #[] #[.pointer (some ⟨w.heap.size,0,none⟩),.pointer (some ⟨w.heap.size+1,0,none⟩),.pointer (some ⟨w.heap.size+2,0,none⟩)],.func (.func 89) #[] #[.pointer (some ⟨w.heap.size,0,none⟩),.pointer (some ⟨w.heap.size+1,0,none⟩),.pointer (some ⟨w.heap.size+2,0,none⟩)]] 134
 have z2:w2.heap.size=w.heap.size+2:=by omega
 have z3:w3.heap.size=w.heap.size+3:=by omega
 have z4:w4.heap.size=w.heap.size+4:=by omega
 rw[z3]at P4
 have B:Below w.heap.size w w4:=((b1.trans (b2.mono (by omega))).trans (b3.mono (by omega))).trans (b4.mono (by omega))
 have c1:w3.cell? ⟨w.heap.size,0,none⟩=some (.pointer o):=ai ((b3.block _ (by omega)).trans ((b2.block _ (by omega)).trans P1)) 0 rfl
 have HC:=hide (kJ (.pointer o) 0 (w.heap.size+3) 4 _ w4 _ rfl (by omega) P4 (zL (.pointer o) w4 (h.below B) _ _) (fun W k=>by simp at k))
 have HB:=hide B
 clear h B b1 P1 b2 P2 b3 P3 b4 P4 s2 s3 s4 z4
 go_enter Tryz.func18,Tryz.ntmps18
 go_wp2_with fail
 refine HC.out.mono ?_
 rintro E w' ⟨e,W,rfl,⟨rfl,rfl⟩,⟨_,rfl⟩|⟨k,_⟩⟩
 ·clear HC
  go_wp2
  go_ret
  exact⟨rfl,HB.out⟩
 ·simp at k
theorem azV (v:Value)(w:World)(h:uh w v):Calls Tryz.prog 17 #[v] w fun E w'=>E=.returned (.tuple #[.int .i64 0,.int .i64 1])∧Below w.heap.size w w':=by
 have qf:∀(fn:Fn) (first cap:Array Value) (w:World),(Instr.makeFunc fn first cap).run Tryz.prog w=.ok (.func fn first cap) w:=fun _ _ _ _=>rfl
 obtain⟨o,rfl⟩:=h.ptr
 obtain⟨w1,hw1,s1,b1,P1⟩:=ay w #[.pointer o] 25
 obtain⟨w2,hw2,s2,b2,P2⟩:=ay w1 #[.slice none 0 0] 71
 obtain⟨w3,hw3,s3,b3,P3⟩:=ay w2 #[.func (.func 51) #[.pointer o] #[],.func (.func 83) #[] #[.pointer (some ⟨w.heap.size,0,none⟩),.pointer (some ⟨w.heap.size+1,0,none⟩)]] 134
 have z2:w2.heap.size=w.heap.size+2:=by omega
 have z3:w3.heap.size=w.heap.size+3:=by omega
 rw[z2]at P3
 have B:Below w.heap.size w w3:=(b1.trans (b2.mono (by omega))).trans (b3.mono (by omega))
 have c1:w2.cell? ⟨w.heap.size,0,none⟩=some (.pointer o):=ai ((b2.block _ (by omega)).trans P1) 0 rfl
 have HC:=hide (kJ (.pointer o) 0 (w.heap.size+2) 2 _ w3 _ rfl (by omega) P3 (zL (.pointer o) w3 (h.below B) _ _) (fun W k=>by simp at k))
 have cx:w3.cell? ⟨w.heap.size+1,0,none⟩=some (.slice none 0 0):=ai ((b3.block _ (by omega)).trans (by rw[s1]at P2;exact P2)) 0 rfl
 have HB:=hide B
 clear h B b1 P1 b2 P2 b3 P3 s2 s3 z3
 go_enter Tryz.func17,Tryz.ntmps17
 go_wp2_with fail
 refine HC.out.mono ?_
 rintro E w' ⟨e,W,rfl,⟨rfl,rfl⟩,⟨_,rfl⟩|⟨k,_⟩⟩
 ·clear HC
  go_wp2
  go_ret2
  exact⟨rfl,HB.out⟩
 ·simp at k
theorem acu (a:ik)(w:World)(ha:yo w a)(hm:ib w):Calls Tryz.prog 4 #[avv a] w fun E w'=>E=.returned (.bool true)∧Below w.heap.size w w':=by
 obtain⟨b1,c1,hv,_,_⟩:=ha.ops.shape
 obtain⟨b2,c2,hx,_,_⟩:=ha.sec.1.shape
 clear ha
 obtain⟨k,n,m,p,v,l,e,f,x,rs⟩:=a
 simp only at hv hx
 obtain⟨n1,hn1⟩:∃y,l.length=y:=⟨_,rfl⟩
 obtain⟨n2,hn2⟩:∃y,rs.length=y:=⟨_,rfl⟩
 rw[hn1]at hv
 rw[hn2]at hx
 subst hv hx
 unfold avv
 simp only
 clear hn1 hn2
 obtain⟨wa,hwa,sza,jL,hA⟩:=ay w #[.int .i64 k,.int .i64 n,.int .i64 m,.int .i64 p.e,.int .u8 p.r,.int .i64 p.a,.int .u8 p.p,.int .i64 p.f,.int .i64 p.b,.slice b1 n1 c1,.int .i64 e,.int .i64 f,.slice b2 n2 c2] 47
 obtain⟨wb,hwb,szb,qQ,hZ⟩:=ay wa zst 60
 obtain⟨wc,hwc,szc,eU,hL⟩:=ay wb #[.pointer none,.pointer (some ⟨wa.heap.size,0,none⟩)] 25
 have HM:=hide hm
 have bwc:Below w.heap.size w wc:=(jL.trans (qQ.mono jL.size)).trans (eU.mono (by omega))
 have CE:Hid (∀W,Below wc.heap.size wc W→(W.cell? ⟨w.heap.size,1,none⟩=some (.int .i64 n)∧(W.cell? ⟨w.heap.size,3,none⟩=some (.int .i64 p.e)∧W.cell? ⟨w.heap.size,4,none⟩=some (.int .u8 p.r)∧W.cell? ⟨w.heap.size,5,none⟩=some (.int .i64 p.a)∧W.cell? ⟨w.heap.size,6,none⟩=some (.int .u8 p.p)∧W.cell? ⟨w.heap.size,7,none⟩=some (.int .i64 p.f)∧W.cell? ⟨w.heap.size,8,none⟩=some (.int .i64 p.b))∧W.cell? ⟨w.heap.size,10,none⟩=some (.int .i64 e)∧W.cell? ⟨w.heap.size,11,none⟩=some (.int .i64 f)∧W.cell? ⟨w.heap.size,12,none⟩=some (.slice b2 n2 c2))∧Below w.heap.size w W):=hide fun W hW=>by
  have hB:=(hW.block w.heap.size (by omega)).trans ((eU.block w.heap.size (by omega)).trans ((qQ.block w.heap.size (by omega)).trans hA))
  exact⟨⟨ai hB 1 rfl,⟨ai hB 3 rfl,ai hB 4 rfl,ai hB 5 rfl,ai hB 6 rfl,ai hB 7 rfl,ai hB 8 rfl⟩,ai hB 10 rfl,ai hB 11 rfl,ai hB 12 rfl⟩,bwc.trans (hW.mono bwc.size)⟩
 have EL:Hid (∀W (i:Nat),Below wc.heap.size wc W→i<2→∃v,W.cell? ⟨wb.heap.size,i,none⟩=some v∧uh W v∧∃o,v=.pointer o):=hide fun W i hW hi=>by
  have hB:=(hW.block wb.heap.size (by omega)).trans hL
  have hZ2:=(hW.block wa.heap.size (by omega)).trans ((eU.block wa.heap.size (by omega)).trans hZ)
  obtain rfl|rfl:i=0∨i=1:=by omega
  ·exact⟨_,ai hB 0 rfl,.inl rfl,_,rfl⟩
  ·exact⟨_,ai hB 1 rfl,.inr ⟨_,rfl,hZ2⟩,_,rfl⟩
 rw[szb,sza]at EL
 rw[sza]at hwc
 unfold zst at hwb
 have hm':=HM.out.below bwc
 have LI:=hide hm'
 clear hm hm' hA hZ hL jL qQ eU bwc
 go_enter Tryz.func4,Tryz.ntmps4
 go_wp2
 go_loopw [4] (fun iv wr=>∃i:Nat,i≤2∧iv=.int .i64 i∧Hid (Below wc.heap.size wc wr)) (fun iv _=>2-(intOf iv).toNat)
 case atStart=>exact⟨0,by omega,rfl,hide (Below.refl _ _)⟩
 case round=>
  obtain⟨i,hi,rfl,BR⟩:=hrel
  by_cases hlt:i<2
  ·obtain⟨v,hc,NS,o,rfl⟩:=EL.out wr i BR.out hlt
   have hlt':(i:Int)<2:=by omega
   have NS:=hide NS
   have X:=hide (aBi (.pointer o) wr NS.out ⟨#[97]⟩)
   go_wp2_with fail
   refine X.out.mono ?_
   rintro E w1 ⟨rfl,B⟩
   have BR:=hide (BR.out.trans (B.mono BR.out.size))
   have NS:=hide (NS.out.below B)
   have X:=hide (azV (.pointer o) w1 NS.out)
   clear B hc
   go_wp2_with fail
   refine X.out.mono ?_
   rintro E w2 ⟨rfl,B⟩
   have BR:=hide (BR.out.trans (B.mono BR.out.size))
   have NS:=hide (NS.out.below B)
   have X:=hide (aBk (.pointer o) w2 NS.out p)
   unfold vp at X
   obtain⟨⟨d1,⟨d3,d4,d5,d6,d7,d8⟩,d10,d11,d12⟩,_⟩:=CE.out w2 BR.out
   clear B
   go_wp2_with fail
   refine X.out.mono ?_
   rintro E w3 ⟨rfl,B⟩
   have BR:=hide (BR.out.trans (B.mono BR.out.size))
   have NS:=hide (NS.out.below B)
   have X:=hide (mf 1 1 w3)
   clear B d1 d3 d4 d5 d6 d7 d8 d10 d11 d12
   go_wp2_with fail
   refine X.out.mono ?_
   rintro E w4 ⟨pa,pk,rfl,O4,B4⟩
   obtain⟨V,hV,fE,bn,hC⟩:=ay w4 #[.int .i64 1,.int .i64 1,.slice pa 1 pk] 32
   have B:Below w3.heap.size w3 V:=B4.trans (bn.mono B4.size)
   have BR:=hide (BR.out.trans (B.mono BR.out.size))
   have NS:=hide (NS.out.below B)
   have X:=hide (aBI (.pointer o) V NS.out (some ⟨w4.heap.size,0,none⟩) 1 1)
   clear B B4 O4 bn hC fE
   go_wp2_with fail
   refine X.out.mono ?_
   rintro E w5 ⟨rfl,B⟩
   have BR:=hide (BR.out.trans (B.mono BR.out.size))
   have NS:=hide (NS.out.below B)
   have X:=hide (ayA (.pointer o) w5 NS.out n)
   obtain⟨⟨d1,⟨d3,d4,d5,d6,d7,d8⟩,d10,d11,d12⟩,_⟩:=CE.out w5 BR.out
   clear B hV
   go_wp2_with fail
   refine X.out.mono ?_
   rintro E w6 ⟨rfl,B⟩
   have BR:=hide (BR.out.trans (B.mono BR.out.size))
   have NS:=hide (NS.out.below B)
   have X:=hide (azw (.pointer o) w6 NS.out n)
   clear d1 d3 d4 d5 d6 d7 d8 d10 d11 d12
   obtain⟨⟨d1,⟨d3,d4,d5,d6,d7,d8⟩,d10,d11,d12⟩,_⟩:=CE.out w6 BR.out
   clear B
   go_wp2_with fail
   refine X.out.mono ?_
   rintro E w7 ⟨rfl,B⟩
   have BR:=hide (BR.out.trans (B.mono BR.out.size))
   have NS:=hide (NS.out.below B)
   have X:=hide (azN (.pointer o) w7 NS.out n e f b2 n2 c2)
   clear d1 d3 d4 d5 d6 d7 d8 d10 d11 d12
   obtain⟨⟨d1,⟨d3,d4,d5,d6,d7,d8⟩,d10,d11,d12⟩,_⟩:=CE.out w7 BR.out
   clear B
   go_wp2_with fail
   refine X.out.mono ?_
   rintro E w8 ⟨rfl,B⟩
   have BR:=hide (BR.out.trans (B.mono BR.out.size))
   have NS:=hide (NS.out.below B)
   have X:=hide (aAT (.pointer o) w8 NS.out)
   clear B d1 d3 d4 d5 d6 d7 d8 d10 d11 d12
   go_wp2_with fail
   refine X.out.mono ?_
   rintro E w9 ⟨rfl,B⟩
   have BR:=hide (BR.out.trans (B.mono BR.out.size))
   have NS:=hide (NS.out.below B)
   have X:=hide (aA4 (.pointer o) w9 NS.out)
   clear B
   go_wp2_with fail
   refine X.out.mono ?_
   rintro E wa ⟨rfl,B⟩
   have BR:=hide (BR.out.trans (B.mono BR.out.size))
   have NS:=hide (NS.out.below B)
   have X:=hide (azQ (.pointer o) wa NS.out)
   clear B
   go_wp2_with fail
   refine X.out.mono ?_
   rintro E wb2 ⟨rfl,B⟩
   have BR:=hide (BR.out.trans (B.mono BR.out.size))
   have NS:=hide (NS.out.below B)
   have X:=hide (azZ (.pointer o) wb2 NS.out)
   rw[show vp Pm.no=.agg #[.int .i64 0,.int .u8 0,.int .i64 0,.int .u8 0,.int .i64 0,.int .i64 0]from rfl]at X
   clear B
   go_wp2_with fail
   refine X.out.mono ?_
   rintro E wc2 ⟨rfl,B⟩
   have BR:=hide (BR.out.trans (B.mono BR.out.size))
   have X:=hide (mM Pm.no Pm.no wc2)
   rw[show vp Pm.no=.agg #[.int .i64 0,.int .u8 0,.int .i64 0,.int .u8 0,.int .i64 0,.int .i64 0]from rfl,show same Pm.no Pm.no=true by decide]at X
   clear B NS
   go_wp2_with fail
   refine X.out.mono ?_
   rintro E wd ⟨rfl,B⟩
   have BR:=hide (BR.out.trans (B.mono BR.out.size))
   clear B X
   go_wp2
   go_roundw
   case rel=>exact⟨i+1,by omega,by go_num,BR⟩
   case measure=>simp[intOf];omega
  ·obtain rfl:i=2:=by omega
   obtain⟨wz,hwz,szz,aw8,hD⟩:=ay wr #[.bool false,.bool false,.int .i64 0,.slice none 0 0,.slice none 0 0,.slice none 0 0,.slice none 0 0,.slice none 0 0,.int .i64 0] 75
   have X:=hide (aeE (.pointer (some ⟨wr.heap.size,0,none⟩)) wz 0 (.inr ⟨_,rfl,ai hD 0 rfl⟩))
   have BR:=hide (BR.out.trans (aw8.mono BR.out.size))
   clear hD aw8 szz
   go_wp2_with fail
   refine X.out.mono ?_
   rintro E w1 ⟨rfl,B⟩
   have BR:=hide (BR.out.trans (B.mono BR.out.size))
   have X:=hide (om w1 (LI.out.below BR.out))
   clear B
   go_wp2_with fail
   refine X.out.mono ?_
   rintro E w2 ⟨rfl,B⟩
   have BF:=hide (CE.out w2 (BR.out.trans (B.mono BR.out.size))).2
   clear B X
   go_wp2
   go_ret
   exact⟨rfl,BF.out⟩
end Go.Proofs.YtpifdeoepppadaaGreatDoor
namespace Go.Proofs.YtpifdeoepppadaaGreatDoor
open Go.ChangeShapes Go.WideShapes Go.ChangeAt Go.RowKit
open Go.ChangeMaps (open_string shut_string)
set_option linter.unusedVariables false
namespace restartNilFrame
theorem own:ownKnob Tryz.prog.godebug=none:=by kernel_rfl
theorem laidOut:laidOutB Tryz.prog=true:=by kernel_rfl
theorem uD:Tryz.prog.cellsOf 47=13:=by kernel_rfl
theorem zt:Tryz.prog.bytesOf 47=136:=by kernel_rfl
theorem uW:Tryz.prog.cellsOf 32=3:=by kernel_rfl
theorem zG:Tryz.prog.bytesOf 32=40:=by kernel_rfl
theorem rY:Tryz.prog.cellsOf 106=3:=by kernel_rfl
theorem xn:Tryz.prog.bytesOf 106=40:=by kernel_rfl
theorem contract (H:Type)(enc:TypeId×Value→H)(W:World)(base:Nat)(args:Array Value)(ds gs:List (DataW H))(before:List MemPlace)
  (hval0:∀(j:Nat) t v,Tryz.f4.params[j]? =some t→args[j]? =some v→Value.okWide Tryz.prog W .any base t v)
  (hW:DataW.Whole enc Tryz.prog Tryz.f4.params.toList Rows.restartNilSpec.vars false W args.toList ds gs before)
  (hsz0:(DataW.weightsEach Tryz.prog (Tryz.f4.params.toList++Rows.restartNilSpec.plain.varTypes Tryz.prog) (ds++gs)).all (·≤reachBytes)=true) (hsh:W.ShapedOpen Tryz.prog) (hld:laidMetH Tryz.prog Rows.restartNilRow.laid W):
  Calls Tryz.prog 4 args W fun e W'=>∃v,e=.returned v∧Rows.restartNilSpec.post enc Tryz.prog Tryz.f4 false true false false W args v W':=by
 have hsz:(DataW.weightsEach Tryz.prog (Tryz.f4.params.toList++Rows.restartNilSpec.plain.varTypes Tryz.prog) (ds++gs)).all (·≤reachBytes)=true:=hsz0
 clear hsz0
 have hval:∀(j:Nat) t v,Tryz.f4.params[j]? =some t→args[j]? =some v→Value.okWide Tryz.prog W .any base t v:=hval0
 have hW':=hW
 obtain⟨p,q,yT,hV,rfl,hfz,hnd⟩:=hW
 have hA:DataW.TrodAll enc Tryz.prog W 0 (fun _=>true) true Tryz.f4.params.toList args.toList ds p:=yT
 rw[Tryz.params4]at hA hval hsz
 obtain⟨v0,vs0,d0,ds0,p0,q0,hargs,rfl,rfl,h0,r0⟩:=trodAll_cons hA
 obtain⟨rfl,rfl,rfl⟩:=trodAll_nil r0
 obtain rfl:args=#[v0]:=by cases args;simp_all
 obtain⟨rfl,rfl⟩:=trodVars_none hV
 have T0:=xU.mk (P:=Tryz.prog) (e:=47) (o:=106) (c:=32) Tryz.underlying47 ⟨rfl,rfl,rfl,rfl,rfl,rfl⟩ ⟨by kernel_rfl,by kernel_rfl,by kernel_rfl,by kernel_rfl,by kernel_rfl,by kernel_rfl⟩ ⟨Tryz.underlying3,Tryz.underlying3,Tryz.underlying3⟩ Tryz.underlying41 (by kernel_rfl) ⟨Tryz.underlying3,Tryz.underlying38,Tryz.underlying3,Tryz.underlying39,Tryz.underlying3,Tryz.underlying3⟩ Tryz.underlying30 Tryz.underlying106 (by kernel_rfl) rY ⟨Tryz.underlying4,Tryz.underlying9,Tryz.underlying9⟩ Tryz.underlying45 (by kernel_rfl) ⟨Tryz.underlying3,Tryz.underlying3,Tryz.underlying43⟩ Tryz.underlying32 (by kernel_rfl) uW ⟨Tryz.underlying3,Tryz.underlying3,Tryz.underlying30⟩
 have k0:=h0
 have jD:∀x∈p0,x.block<W.heap.size:=by obtain⟨m,hm⟩:=k0;exact DataW.trod_lt m _ _ _ hm
 obtain⟨z0,rfl,w0⟩:=akZ T0 uD (hval 0 47 v0 rfl rfl) h0
 clear yT hval0
 refine(acu z0 W w0 (acf hld)).mono fun e W' ⟨he,aF⟩=>?_
 subst he
 exact⟨_,rfl,_,_,_,[],_,[],hW',trodAll_mk1 (shut_bool Tryz.underlying4 _),(trodAll_cons_mk (Below.trod laidOut (by kernel_rfl) (of_decide_eq_true (by kernel_rfl)) k0 aF jD) trodAll_mk0),rfl,aF.frame _,fun h=>by cases h⟩
def kC (cs:Array Value):Obj→Obj
 |.cells _ t frozen=>.cells cs t frozen
 |o=>o
theorem lifted (os:Os)(started:os.Started)(H:Type)(enc:TypeId×Value→H)(F:Stop.Interp):
  ReturnsInHanded {} Tryz.checked os 4 .any ((OpenSpec.ofChange Rows.restartNilSpec).preRow enc Tryz.prog Tryz.f4 Rows.restartNilRow.domain false Rows.restartNilRow.laid) (((OpenSpec.ofChange Rows.restartNilSpec).at F).post enc Tryz.prog Tryz.f4 false true false false):=by
 refine returnsInHanded_of_row (C:=Tryz.checked) (s:=OpenSpec.ofChange Rows.restartNilSpec) own started (by kernel_rfl) Tryz.func4
  (witness_row_at (enc:=enc) (C:=Tryz.checked) false ({World.holding Tryz.prog os ⟨#[],#[],[]⟩with heap:=((World.holding Tryz.prog os ⟨#[],#[],[]⟩).heap.modify 0 (kC (#[.int .i64 1048576,.int .i64 3,.int .i64 1048576,.int .i64 4,.int .i64 1048576,.int .i64 1073741824])))}:World) #[.agg #[.int .i64 0,.int .i64 0,.int .i64 0,.int .i64 0,.int .u8 0,.int .i64 0,.int .u8 0,.int .i64 0,.int .i64 0,.slice none 0 0,.int .i64 0,.int .i64 0,.slice none 0 0]] rfl (by kernel_rfl) (by kernel_rfl) (by kernel_rfl)
   (OpenSpec.preRow_of_cond 8 (x:=([.agg [.lit (.int .i64 0),.lit (.int .i64 0),.lit (.int .i64 0),.agg [.lit (.int .i64 0),.lit (.int .u8 0),.lit (.int .i64 0),.lit (.int .u8 0),.lit (.int .i64 0),.lit (.int .i64 0)],.nil,.agg [.lit (.int .i64 0),.lit (.int .i64 0),.nil]]],[],[])) (by kernel_rfl) (by kernel_rfl) (fun k hk=>by cases hk) (by kernel_rfl) (laidMet_of_run' 8 (by kernel_rfl) (by kernel_rfl)))) ?_
 intro W base args ds gs before hval hW _ _ hsz hld hsh _
 exact contract H enc W base args ds gs before hval hW hsz hsh hld
theorem said:Rows.RestartNilSaid:=
 OpenClaim.holds_of_cond 4 Tryz.f4 rfl rfl rfl rfl rfl rfl rfl ⟨rfl,rfl,rfl,rfl,rfl⟩ rfl rfl rfl rfl rfl (by kernel_rfl) Tryz.func4 (by kernel_rfl)
  (of_decide_eq_true (by kernel_rfl)) (by unfold Func.isWrapper;first|(rw[if_pos (by decide+kernel)];kernel_rfl)|(rw[if_neg (by decide+kernel)];exact⟨rfl,rfl⟩))
  (fun os started H enc _ F=>by rw[OpenClaim.pre_eq_preRow];exact lifted os started H enc F)
theorem plain (f:FuncId)(fn:Func)(hf:Tryz.pinned.checked.prog.funcNamed Rows.restartNilRow.func=some f)(hfn:Tryz.pinned.checked.prog.funcs[f]? =some fn):
  false=Tryz.pinned.checked.prog.looks []∧∀(j:Nat) t,fn.params[j]? =some t→Tryz.pinned.checked.prog.wantsStandIn t=false:=by
 obtain rfl:f=4:=Option.some.inj ((show Tryz.prog.funcNamed Rows.restartNilRow.func=some 4 by kernel_rfl).symm.trans hf)|>.symm
 obtain rfl:fn=Tryz.f4:=(Option.some.inj (Tryz.func4.symm.trans hfn)).symm
 refine⟨by kernel_rfl,fun j t ht=>?_⟩
 rw[Tryz.params4]at ht
 have hm:=Array.mem_of_getElem? ht
 simp at hm
 subst hm
 exact(show Tryz.prog.wantsStandIn 47=false by kernel_rfl)
end restartNilFrame
theorem restartNil_card:Rows.RestartNilCardSaid:=
 Claim7.holds_tied_plain_at .later [] _ _ _ _ restartNilFrame.said (fun _ h=>by cases h) (by kernel_rfl) (fun _ h=>by cases h) restartNil_row_tie rfl ⟨rfl,rfl⟩ (by kernel_rfl) rfl restartNilFrame.plain (by kernel_rfl)
#print axioms restartNil_card
end Go.Proofs.YtpifdeoepppadaaGreatDoor
