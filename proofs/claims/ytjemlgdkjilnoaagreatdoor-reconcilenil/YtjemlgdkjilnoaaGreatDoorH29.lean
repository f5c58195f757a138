/- Texts of one layer, one behind the other. -/
import Derived.Test.YtjemlgdkjilnoaaGreatDoorH25
import Derived.Test.YtjemlgdkjilnoaaGreatDoorH19
import Derived.Test.YtjemlgdkjilnoaaGreatDoorH28
import Derived.Test.YtjemlgdkjilnoaaGreatDoorH16
import Derived.Test.YtjemlgdkjilnoaaGreatDoorH4
import Derived.Deep.RegionHeld3
import Derived.Test.YtjemlgdkjilnoaaGreatDoorH15
import Derived.Test.YtjemlgdkjilnoaaGreatDoorH1
import Derived.Test.YtjemlgdkjilnoaaGreatDoorH8
set_option maxRecDepth 100000
set_option maxHeartbeats 8000000
namespace Go.Proofs.YtjemlgdkjilnoaaGreatDoor
open Go.RowKit
set_option linter.unusedVariables false
theorem anA (l:List Cm.Cv)(n:Nat)(h:n≤l.length):zB l 1 n=l.take n:=by
 unfold zB
 split
 ·rename_i k
  rcases n with _|n
  ·simp
  ·exfalso;omega
 ·simp
theorem jr {l:List Cm.Cv}(h:Cm.Good 0 0 l)(n:Nat):Cm.Good 0 0 (l.take n):=by
 rw[←List.take_append_drop n l]at h
 exact((Cm.dX _ _ _ _).1 h).1
theorem alS (p q:Nat)(F:Nat→Prop)(w:World)(s:Rst.St)(h:PS p q F w s)(hR:o9 s):Calls Tryz.prog 20 #[.pointer (some ⟨p,0,none⟩)] w fun E w'=>E=.returned (vp s.p)∧Below w.heap.size w w':=by
 obtain⟨F1,G,h1,⟨pw,pr,ps,Gw,Gr,Gs,lw,bw,br,V,rfl⟩,h3,hm,rfl⟩:=h
 have hb:=V.blk
 have hpl:=ax hb
 obtain⟨w1,hw1,s1,b1,P1⟩:=ak w #[.int .i64 0,.int .u8 0,.int .i64 0,.int .u8 0,.int .i64 0,.int .i64 0] 35
 obtain⟨c0,c1,c2,c3,c4,c5,c6,c7,c8,c9,c10,c11,c12⟩:=l9 ((b1.block p hpl).trans hb)
 have HM:=hide (rD p q w1 c0)
 obtain⟨V',hV',dG,bQ,⟨a0,a1,a2,a3,a4,a5⟩,fr,⟨z0,z1,z2,z3,z4,z5⟩⟩:=dU P1 (.int .i64 s.p.e) (.int .u8 s.p.r) (.int .i64 s.p.a) (.int .u8 s.p.p) (.int .i64 s.p.f) (.int .i64 s.p.b)
 have f0:=fr 0;have f1:=fr 1;have f2:=fr 2;have f3:=fr 3;have f4:=fr 4;have f5:=fr 5
 have BV:=hide (aD b1 bQ (Nat.le_refl _) (by omega))
 clear V h1 h3 hm hb b1 P1 dG bQ fr s1 hpl hR
 go_enter Tryz.func20,Tryz.ntmps20
 go_wp2_with fail
 refine HM.out.mono ?_
 rintro E w2 ⟨rfl,rfl⟩
 clear HM
 go_wp2
 refine bodyPost_ret (v:=vp s.p) (by simp[results,Tryz.results20,go_sem,z0,z1,z2,z3,z4,z5,vp]) rfl ?_
 exact⟨rfl,BV.out⟩
theorem amN (p q:Nat)(F:Nat→Prop)(w:World)(s:Rst.St)(h:PS p q F w s)(hR:o9 s):Calls Tryz.prog 25 #[.pointer (some ⟨p,0,none⟩)] w fun E w'=>E=.returned (.int .i64 s.l.length)∧Below w.heap.size w w':=by
 obtain⟨F1,G,h1,⟨pw,pr,ps,Gw,Gr,Gs,lw,bw,br,V,rfl⟩,h3,hm,rfl⟩:=h
 obtain⟨c0,c1,c2,c3,c4,c5,c6,c7,c8,c9,c10,c11,c12⟩:=l9 V.blk
 have HM:=hide (rD p q w c0)
 clear V h1 h3 hm hR
 generalize (s.l.length:Int)=n at*
 go_enter Tryz.func25,Tryz.ntmps25
 go_wp2_with fail
 refine HM.out.mono ?_
 rintro E w2 ⟨rfl,rfl⟩
 clear HM
 go_wp2
 go_ret
 exact⟨rfl,Below.refl _ _⟩
theorem afp (p q:Nat)(F:Nat→Prop)(w:World)(s:Rst.St)(h:PS p q F w s)(hR:o9 s):Calls Tryz.prog 22 #[.pointer (some ⟨p,0,none⟩)] w fun E w'=>∃v rs,E=.returned v∧gN w.heap.size w' v rs∧az rs=s.l∧Below w.heap.size w w':=by
 obtain⟨F1,G,h1,⟨pw,pr,ps,Gw,Gr,Gs,lw,bw,br,V,rfl⟩,h3,hm,rfl⟩:=h
 have hb:=V.blk
 have hpl:=ax hb
 obtain⟨c0,c1,c2,c3,c4,c5,c6,c7,c8,c9,c10,c11,c12⟩:=l9 V.blk
 have HM:=hide (rD p q w c0)
 have hl:s.l.length≤lw.length:=by
  have:=congrArg List.length V.log
  rw[List.length_take]at this
  omega
 have hg:Cm.Good 0 0 s.l:=by rw[V.log];exact jr V.wal.good _
 have HF:Hid (Calls Tryz.prog 49 #[.pointer (some ⟨pw,0,none⟩),.int .i64 1,.int .i64 s.l.length] w.drew fun E w'=>∃v rs,E=.returned v∧Hid (gN w.heap.size w' v rs∧az rs=s.l)∧Below w.heap.size w w'∧w'.cell? ⟨p,8,none⟩=some (.pointer (some ⟨pw,0,none⟩))∧w'.cell? ⟨p,9,none⟩=some (.int .i64 s.l.length)∧w'.cell? ⟨p,10,none⟩=some (.slice none 0 0)):=hide (by
  have hd:Below w.heap.size w w.drew:=(Below.refl _ _).drew
  refine(wP pw q _ w.drew _ 1 s.l.length ((V.ww h1).below hd)).mono ?_
  rintro E w' ⟨v,rs,rfl,o1,o2,o3,o4,o5⟩
  have o3:az rs=s.l:=by rw[o3,anA lw _ hl];exact V.log.symm
  have o5:Below w.heap.size w w':=hd.trans o5
  obtain⟨f1,f2⟩:=afq hg o3
  obtain⟨_,_,_,_,_,_,_,_,k8,k9,k10,_⟩:=l9 ((o5.block p hpl).trans hb)
  exact⟨v,rs,rfl,hide ⟨⟨o1,o2,fun c hc=>⟨(f2 c hc).1,(f2 c hc).2.1⟩,o4,f1⟩,o3⟩,o5,k8,k9,k10⟩)
 generalize (s.l.length:Int)=n at*
 clear V h1 h3 hm hR hb hg hl hpl
 go_enter Tryz.func22,Tryz.ntmps22
 go_wp2_with fail
 refine HM.out.mono ?_
 rintro E w2 ⟨rfl,rfl⟩
 clear HM
 go_wp2_with fail
 go_region_held3 (fun w'=>w'.cell? ⟨p,8,none⟩=some (.pointer (some ⟨pw,0,none⟩))∧w'.cell? ⟨p,9,none⟩=some (.int .i64 n)) (first|exact⟨c8,c9⟩|exact⟨d8,d9⟩|go_keep)
  (first
  |(go_at_call 49;refine HF.out.mono ?_;rintro E w3 ⟨vv,rs,rfl,X,b3,d8,d9,d10⟩;have B3:=hide b3;clear b3))
 clear HF
 go_wp2_with fail
 go_loopw [3,26] (fun v3 iv wr=>v3=vv∧iv=.int .i64 0∧wr=w3) (fun _ _ _=>0)
 case atStart=>exact⟨rfl,rfl,rfl⟩
 case round=>
  obtain⟨rfl,rfl,rfl⟩:=hrel
  go_wp2
  go_ret
  exact⟨_,rs,rfl,X.out.1,X.out.2,B3.out⟩
end Go.Proofs.YtjemlgdkjilnoaaGreatDoor
