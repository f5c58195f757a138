/- Texts of one layer, one behind the other. -/
import Derived.Test.YtmngcecomcadkaaGreatDoorCH13
import Derived.Deep.RegionHeld3
import Derived.Deep.CutRange
import Derived.Shelf.RegionOpen
set_option maxRecDepth 100000
set_option maxHeartbeats 8000000
namespace Go.Proofs.YtmngcecomcadkaaGreatDoor
open Go.RowKit
set_option linter.unusedVariables false
def qA (x:Pm.Pg) (ep en rn b:Int):Bool:=
 if x.p=4 then decide (rn≤en)&&decide (ep≤x.e)&&decide (x.a≤en)&&decide (x.f=en)&&(decide (rn≤x.f)&&decide (x.f≤en)&&decide (x.b≤b))&&decide (ep<x.e)
 else if x.p=3∨x.p=2 then decide (rn≤en)&&decide (ep≤x.e)&&decide (x.a≤en)&&(decide (rn≤x.f)&&decide (x.f≤en)&&decide (x.b≤b))&&decide (ep<x.e)
 else if x.p=1 then decide (rn≤en)&&decide (ep≤x.e)&&decide (x.a≤en)&&decide (ep<x.e)
 else decide (rn≤en)&&decide (ep≤x.e)&&decide (x.a≤en)
theorem aaj (p:Nat)(x:Pm.Pg)(ep en rn b:Int)(w:World)(hS:(x.p=2∨x.p=3∨x.p=4)→∀W,Below w.heap.size w W→Calls Tryz.prog 109 #[.pointer (some ⟨p,0,none⟩)] W fun E w'=>E=.returned (.int .i64 b)∧Below W.heap.size W w'):
  Calls Tryz.prog 55 #[.agg (jc x ep en rn p)] w fun E w'=>E=.returned (.int .i64 (if qA x ep en rn b=true then 0 else 5))∧Below w.heap.size w w':=by
 obtain⟨w1,hw1,s1,b1,P1⟩:=ak w (jc x ep en rn p) 119
 have eg:=enters_of Tryz.func109 (by kernel_rfl) rfl
 have HS:Hid ((x.p=2∨x.p=3∨x.p=4)→Calls Tryz.prog 109 #[.pointer (some ⟨p,0,none⟩)] w1.drew fun E w'=>E=.returned (.int .i64 b)∧Below w1.heap.size w1 w'):=hide fun k=>by
  refine(hS k w1.drew b1.drew).mono ?_
  rintro E w' ⟨rfl,k⟩
  exact⟨rfl,(Below.refl _ w1).drew.trans k⟩
 have HB:=hide b1
 obtain⟨r,hr⟩:∃r,(if qA x ep en rn b=true then(0:Int)else 5)=r:=⟨_,rfl⟩
 rw[hr]
 unfold qA at hr
 have KP:Hid (∀W2,Below w1.heap.size w1 W2→(W2.cell? ⟨w.heap.size,0,none⟩=some (.int .i64 x.e)∧W2.cell? ⟨w.heap.size,6,none⟩=some (.int .i64 ep))∧(W2.cell? ⟨w.heap.size,4,none⟩=some (.int .i64 x.f)∧W2.cell? ⟨w.heap.size,5,none⟩=some (.int .i64 x.b)∧W2.cell? ⟨w.heap.size,7,none⟩=some (.int .i64 en)∧W2.cell? ⟨w.heap.size,8,none⟩=some (.int .i64 rn)∧W2.cell? ⟨w.heap.size,9,none⟩=some (.func (.func 109) #[.pointer (some ⟨p,0,none⟩)] #[]))∧Below w.heap.size w W2):=hide fun W2 k=>by
  obtain⟨y0,y1,y2,y3,y4,y5,y6,y7,y8,y9⟩:=mh ((k.block _ (by omega)).trans P1)
  exact⟨⟨y0,y6⟩,⟨y4,y5,y7,y8,y9⟩,b1.trans (k.mono (by omega))⟩
 unfold jc at hw1 P1⊢
 obtain⟨xe,xr,xa,xp,xf,xb⟩:=x
 simp only at*
 obtain⟨s,hs⟩:∃s,(decide (rn≤en)&&decide (ep≤xe)&&decide (xa≤en))=s:=⟨_,rfl⟩
 rw[hs]at hr
 obtain⟨c0,c1,c2,c3,c4,c5,c6,c7,c8,c9⟩:=mh P1
 have HR:=hide hr
 have HZ:=hide hs
 clear hS b1 P1 s1 hr hs
 go_enter Tryz.func55,Tryz.ntmps55
 go_upto_region 1 with fail
 go_cut [3]from 4 to 24 (fun v wx=>v=.bool s∧wx=w1)
 case first=>
  by_cases h1:rn≤en
  ·by_cases h2:ep≤xe
   ·by_cases h3:xa≤en
    ·obtain rfl:s=true:=by rw[←HZ.out];simp[h1,h2,h3]
     go_wp2_with fail
     go_meet
     exact⟨rfl,rfl⟩
    ·obtain rfl:s=false:=by rw[←HZ.out];simp[h3]
     go_wp2_with fail
     go_meet
     exact⟨rfl,rfl⟩
   ·obtain rfl:s=false:=by rw[←HZ.out];simp[h2]
    go_wp2_with fail
    go_meet
    exact⟨rfl,rfl⟩
  ·obtain rfl:s=false:=by rw[←HZ.out];simp[h1]
   go_wp2_with fail
   go_meet
   exact⟨rfl,rfl⟩
 case rest=>
  obtain⟨rfl,rfl⟩:=hcut
  clear HZ
  by_cases lK:xp=4
  ·have q4:(xp==4)=true:=by simp[lK]
   cases s
   ·obtain rfl:r=5:=by rw[←HR.out];simp[lK]
    clear HR
    go_wp2_with fail
    go_quiet (fail)
    go_wp2
    all_goals (go_ret;exact⟨rfl,(below_drewN HB.out _)⟩)
   ·by_cases h4:xf=en
    ·subst h4
     by_cases h5:rn≤xf
     ·by_cases h7:xb≤b
      ·by_cases h8:ep<xe
       ·have HC:=hide (HS.out (by simp[lK]))
        obtain rfl:r=0:=by rw[←HR.out];simp[lK,h5,h7,h8]
        clear HR
        go_wp2_with fail
        have wG:decide (rn≤xf)=true:=decide_eq_true (by omega)
        have h7d:decide (xb≤b)=true:=decide_eq_true (by omega)
        have h8d:decide (ep<xe)=true:=decide_eq_true (by omega)
        go_region_held3 (fun W=>W.cell? ⟨w.heap.size,4,none⟩=some (.int .i64 xf)∧W.cell? ⟨w.heap.size,5,none⟩=some (.int .i64 xb)∧W.cell? ⟨w.heap.size,7,none⟩=some (.int .i64 xf)∧W.cell? ⟨w.heap.size,8,none⟩=some (.int .i64 rn)∧W.cell? ⟨w.heap.size,9,none⟩=some (.func (.func 109) #[.pointer (some ⟨p,0,none⟩)] #[])) (first|exact⟨c4,c5,c7,c8,c9⟩|exact dS|go_keep)
         (first
         |(go_at_call 109;refine HC.out.mono ?_;rintro E w2 ⟨rfl,b2⟩;obtain⟨⟨d0,d6⟩,dS,bS⟩:=KP.out _ b2;have B2:=hide bS;clear b2 bS))
        go_wp2
        all_goals (go_ret;exact⟨rfl,B2.out⟩)
       ·have HC:=hide (HS.out (by simp[lK]))
        obtain rfl:r=5:=by rw[←HR.out];simp[lK,h8]
        clear HR
        go_wp2_with fail
        have h8d:decide (ep<xe)=false:=decide_eq_false (by omega)
        have wG:decide (rn≤xf)=true:=decide_eq_true (by omega)
        have h7d:decide (xb≤b)=true:=decide_eq_true (by omega)
        go_region_held3 (fun W=>W.cell? ⟨w.heap.size,4,none⟩=some (.int .i64 xf)∧W.cell? ⟨w.heap.size,5,none⟩=some (.int .i64 xb)∧W.cell? ⟨w.heap.size,7,none⟩=some (.int .i64 xf)∧W.cell? ⟨w.heap.size,8,none⟩=some (.int .i64 rn)∧W.cell? ⟨w.heap.size,9,none⟩=some (.func (.func 109) #[.pointer (some ⟨p,0,none⟩)] #[])) (first|exact⟨c4,c5,c7,c8,c9⟩|exact dS|go_keep)
         (first
         |(go_at_call 109;refine HC.out.mono ?_;rintro E w2 ⟨rfl,b2⟩;obtain⟨⟨d0,d6⟩,dS,bS⟩:=KP.out _ b2;have B2:=hide bS;clear b2 bS))
        go_wp2
        all_goals (go_ret;exact⟨rfl,B2.out⟩)
      ·have HC:=hide (HS.out (by simp[lK]))
       obtain rfl:r=5:=by rw[←HR.out];simp[lK,h7]
       clear HR
       go_wp2_with fail
       have h7d:decide (xb≤b)=false:=decide_eq_false (by omega)
       have wG:decide (rn≤xf)=true:=decide_eq_true (by omega)
       go_region_held3 (fun W=>W.cell? ⟨w.heap.size,4,none⟩=some (.int .i64 xf)∧W.cell? ⟨w.heap.size,5,none⟩=some (.int .i64 xb)∧W.cell? ⟨w.heap.size,7,none⟩=some (.int .i64 xf)∧W.cell? ⟨w.heap.size,8,none⟩=some (.int .i64 rn)∧W.cell? ⟨w.heap.size,9,none⟩=some (.func (.func 109) #[.pointer (some ⟨p,0,none⟩)] #[])) (first|exact⟨c4,c5,c7,c8,c9⟩|exact dS|go_keep)
        (first
        |(go_at_call 109;refine HC.out.mono ?_;rintro E w2 ⟨rfl,b2⟩;obtain⟨⟨d0,d6⟩,dS,bS⟩:=KP.out _ b2;have B2:=hide bS;clear b2 bS))
       go_wp2
       all_goals (go_ret;exact⟨rfl,B2.out⟩)
     ·obtain rfl:r=5:=by rw[←HR.out];simp[lK,h5]
      clear HR
      go_wp2_with fail
      have wG:decide (rn≤xf)=false:=decide_eq_false (by omega)
      go_quiet (fail)
      go_wp2
      all_goals (go_ret;exact⟨rfl,(below_drewN HB.out _)⟩)
    ·have h4b:(xf==en)=false:=by simp[h4]
     obtain rfl:r=5:=by rw[←HR.out];simp[lK,h4]
     clear HR
     go_wp2_with fail
     go_quiet (fail)
     go_wp2
     all_goals (go_ret;exact⟨rfl,(below_drewN HB.out _)⟩)
  ·by_cases hp3:xp=3
   ·have q4:(xp==4)=false:=by simp[hp3]
    have q3:(xp==3)=true:=by simp[hp3]
    cases s
    ·obtain rfl:r=5:=by rw[←HR.out];simp[hp3]
     clear HR
     go_wp2_with fail
     go_quiet (fail)
     go_wp2
     all_goals (go_ret;exact⟨rfl,(below_drewN HB.out _)⟩)
    ·by_cases h5:rn≤xf
     ·by_cases h6:xf≤en
      ·by_cases h7:xb≤b
       ·by_cases h8:ep<xe
        ·have HC:=hide (HS.out (by simp[hp3]))
         obtain rfl:r=0:=by rw[←HR.out];simp[hp3,h5,h6,h7,h8]
         clear HR
         go_wp2_with fail
         have wG:decide (rn≤xf)=true:=decide_eq_true (by omega)
         have h6d:decide (xf≤en)=true:=decide_eq_true (by omega)
         have h7d:decide (xb≤b)=true:=decide_eq_true (by omega)
         have h8d:decide (ep<xe)=true:=decide_eq_true (by omega)
         go_region_held3 (fun W=>W.cell? ⟨w.heap.size,4,none⟩=some (.int .i64 xf)∧W.cell? ⟨w.heap.size,5,none⟩=some (.int .i64 xb)∧W.cell? ⟨w.heap.size,7,none⟩=some (.int .i64 en)∧W.cell? ⟨w.heap.size,8,none⟩=some (.int .i64 rn)∧W.cell? ⟨w.heap.size,9,none⟩=some (.func (.func 109) #[.pointer (some ⟨p,0,none⟩)] #[])) (first|exact⟨c4,c5,c7,c8,c9⟩|exact dS|go_keep)
          (first
          |(go_at_call 109;refine HC.out.mono ?_;rintro E w2 ⟨rfl,b2⟩;obtain⟨⟨d0,d6⟩,dS,bS⟩:=KP.out _ b2;have B2:=hide bS;clear b2 bS))
         go_wp2
         all_goals (go_ret;exact⟨rfl,B2.out⟩)
        ·have HC:=hide (HS.out (by simp[hp3]))
         obtain rfl:r=5:=by rw[←HR.out];simp[hp3,h8]
         clear HR
         go_wp2_with fail
         have h8d:decide (ep<xe)=false:=decide_eq_false (by omega)
         have wG:decide (rn≤xf)=true:=decide_eq_true (by omega)
         have h6d:decide (xf≤en)=true:=decide_eq_true (by omega)
         have h7d:decide (xb≤b)=true:=decide_eq_true (by omega)
         go_region_held3 (fun W=>W.cell? ⟨w.heap.size,4,none⟩=some (.int .i64 xf)∧W.cell? ⟨w.heap.size,5,none⟩=some (.int .i64 xb)∧W.cell? ⟨w.heap.size,7,none⟩=some (.int .i64 en)∧W.cell? ⟨w.heap.size,8,none⟩=some (.int .i64 rn)∧W.cell? ⟨w.heap.size,9,none⟩=some (.func (.func 109) #[.pointer (some ⟨p,0,none⟩)] #[])) (first|exact⟨c4,c5,c7,c8,c9⟩|exact dS|go_keep)
          (first
          |(go_at_call 109;refine HC.out.mono ?_;rintro E w2 ⟨rfl,b2⟩;obtain⟨⟨d0,d6⟩,dS,bS⟩:=KP.out _ b2;have B2:=hide bS;clear b2 bS))
         go_wp2
         all_goals (go_ret;exact⟨rfl,B2.out⟩)
       ·have HC:=hide (HS.out (by simp[hp3]))
        obtain rfl:r=5:=by rw[←HR.out];simp[hp3,h7]
        clear HR
        go_wp2_with fail
        have h7d:decide (xb≤b)=false:=decide_eq_false (by omega)
        have wG:decide (rn≤xf)=true:=decide_eq_true (by omega)
        have h6d:decide (xf≤en)=true:=decide_eq_true (by omega)
        go_region_held3 (fun W=>W.cell? ⟨w.heap.size,4,none⟩=some (.int .i64 xf)∧W.cell? ⟨w.heap.size,5,none⟩=some (.int .i64 xb)∧W.cell? ⟨w.heap.size,7,none⟩=some (.int .i64 en)∧W.cell? ⟨w.heap.size,8,none⟩=some (.int .i64 rn)∧W.cell? ⟨w.heap.size,9,none⟩=some (.func (.func 109) #[.pointer (some ⟨p,0,none⟩)] #[])) (first|exact⟨c4,c5,c7,c8,c9⟩|exact dS|go_keep)
         (first
         |(go_at_call 109;refine HC.out.mono ?_;rintro E w2 ⟨rfl,b2⟩;obtain⟨⟨d0,d6⟩,dS,bS⟩:=KP.out _ b2;have B2:=hide bS;clear b2 bS))
        go_wp2
        all_goals (go_ret;exact⟨rfl,B2.out⟩)
      ·obtain rfl:r=5:=by rw[←HR.out];simp[hp3,h6]
       clear HR
       go_wp2_with fail
       have h6d:decide (xf≤en)=false:=decide_eq_false (by omega)
       go_quiet (fail)
       go_wp2
       all_goals (go_ret;exact⟨rfl,(below_drewN HB.out _)⟩)
     ·obtain rfl:r=5:=by rw[←HR.out];simp[hp3,h5]
      clear HR
      go_wp2_with fail
      have wG:decide (rn≤xf)=false:=decide_eq_false (by omega)
      go_quiet (fail)
      go_wp2
      all_goals (go_ret;exact⟨rfl,(below_drewN HB.out _)⟩)
   ·by_cases hp2:xp=2
    ·have q4:(xp==4)=false:=by simp[hp2]
     have q3:(xp==3)=false:=by simp[hp2]
     have q2:(xp==2)=true:=by simp[hp2]
     cases s
     ·obtain rfl:r=5:=by rw[←HR.out];simp[hp2]
      clear HR
      go_wp2_with fail
      go_quiet (fail)
      go_wp2
      all_goals (go_ret;exact⟨rfl,(below_drewN HB.out _)⟩)
     ·by_cases h5:rn≤xf
      ·by_cases h6:xf≤en
       ·by_cases h7:xb≤b
        ·by_cases h8:ep<xe
         ·have HC:=hide (HS.out (by simp[hp2]))
          obtain rfl:r=0:=by rw[←HR.out];simp[hp2,h5,h6,h7,h8]
          clear HR
          go_wp2_with fail
          have wG:decide (rn≤xf)=true:=decide_eq_true (by omega)
          have h6d:decide (xf≤en)=true:=decide_eq_true (by omega)
          have h7d:decide (xb≤b)=true:=decide_eq_true (by omega)
          have h8d:decide (ep<xe)=true:=decide_eq_true (by omega)
          go_region_held3 (fun W=>W.cell? ⟨w.heap.size,4,none⟩=some (.int .i64 xf)∧W.cell? ⟨w.heap.size,5,none⟩=some (.int .i64 xb)∧W.cell? ⟨w.heap.size,7,none⟩=some (.int .i64 en)∧W.cell? ⟨w.heap.size,8,none⟩=some (.int .i64 rn)∧W.cell? ⟨w.heap.size,9,none⟩=some (.func (.func 109) #[.pointer (some ⟨p,0,none⟩)] #[])) (first|exact⟨c4,c5,c7,c8,c9⟩|exact dS|go_keep)
           (first
           |(go_at_call 109;refine HC.out.mono ?_;rintro E w2 ⟨rfl,b2⟩;obtain⟨⟨d0,d6⟩,dS,bS⟩:=KP.out _ b2;have B2:=hide bS;clear b2 bS))
          go_wp2
          all_goals (go_ret;exact⟨rfl,B2.out⟩)
         ·have HC:=hide (HS.out (by simp[hp2]))
          obtain rfl:r=5:=by rw[←HR.out];simp[hp2,h8]
          clear HR
          go_wp2_with fail
          have h8d:decide (ep<xe)=false:=decide_eq_false (by omega)
          have wG:decide (rn≤xf)=true:=decide_eq_true (by omega)
          have h6d:decide (xf≤en)=true:=decide_eq_true (by omega)
          have h7d:decide (xb≤b)=true:=decide_eq_true (by omega)
          go_region_held3 (fun W=>W.cell? ⟨w.heap.size,4,none⟩=some (.int .i64 xf)∧W.cell? ⟨w.heap.size,5,none⟩=some (.int .i64 xb)∧W.cell? ⟨w.heap.size,7,none⟩=some (.int .i64 en)∧W.cell? ⟨w.heap.size,8,none⟩=some (.int .i64 rn)∧W.cell? ⟨w.heap.size,9,none⟩=some (.func (.func 109) #[.pointer (some ⟨p,0,none⟩)] #[])) (first|exact⟨c4,c5,c7,c8,c9⟩|exact dS|go_keep)
           (first
           |(go_at_call 109;refine HC.out.mono ?_;rintro E w2 ⟨rfl,b2⟩;obtain⟨⟨d0,d6⟩,dS,bS⟩:=KP.out _ b2;have B2:=hide bS;clear b2 bS))
          go_wp2
          all_goals (go_ret;exact⟨rfl,B2.out⟩)
        ·have HC:=hide (HS.out (by simp[hp2]))
         obtain rfl:r=5:=by rw[←HR.out];simp[hp2,h7]
         clear HR
         go_wp2_with fail
         have h7d:decide (xb≤b)=false:=decide_eq_false (by omega)
         have wG:decide (rn≤xf)=true:=decide_eq_true (by omega)
         have h6d:decide (xf≤en)=true:=decide_eq_true (by omega)
         go_region_held3 (fun W=>W.cell? ⟨w.heap.size,4,none⟩=some (.int .i64 xf)∧W.cell? ⟨w.heap.size,5,none⟩=some (.int .i64 xb)∧W.cell? ⟨w.heap.size,7,none⟩=some (.int .i64 en)∧W.cell? ⟨w.heap.size,8,none⟩=some (.int .i64 rn)∧W.cell? ⟨w.heap.size,9,none⟩=some (.func (.func 109) #[.pointer (some ⟨p,0,none⟩)] #[])) (first|exact⟨c4,c5,c7,c8,c9⟩|exact dS|go_keep)
          (first
          |(go_at_call 109;refine HC.out.mono ?_;rintro E w2 ⟨rfl,b2⟩;obtain⟨⟨d0,d6⟩,dS,bS⟩:=KP.out _ b2;have B2:=hide bS;clear b2 bS))
         go_wp2
         all_goals (go_ret;exact⟨rfl,B2.out⟩)
       ·obtain rfl:r=5:=by rw[←HR.out];simp[hp2,h6]
        clear HR
        go_wp2_with fail
        have h6d:decide (xf≤en)=false:=decide_eq_false (by omega)
        go_quiet (fail)
        go_wp2
        all_goals (go_ret;exact⟨rfl,(below_drewN HB.out _)⟩)
      ·obtain rfl:r=5:=by rw[←HR.out];simp[hp2,h5]
       clear HR
       go_wp2_with fail
       have wG:decide (rn≤xf)=false:=decide_eq_false (by omega)
       go_quiet (fail)
       go_wp2
       all_goals (go_ret;exact⟨rfl,(below_drewN HB.out _)⟩)
    ·by_cases hp1:xp=1
     ·have q4:(xp==4)=false:=by simp[hp1]
      have q3:(xp==3)=false:=by simp[hp1]
      have q2:(xp==2)=false:=by simp[hp1]
      have q1:(xp==1)=true:=by simp[hp1]
      cases s
      ·obtain rfl:r=5:=by rw[←HR.out];simp[hp1]
       clear HR
       go_wp2
       all_goals (go_ret;exact⟨rfl,HB.out⟩)
      ·by_cases h8:ep<xe
       ·obtain rfl:r=0:=by rw[←HR.out];simp[hp1,h8]
        clear HR
        go_wp2
        all_goals (go_ret;exact⟨rfl,HB.out⟩)
       ·obtain rfl:r=5:=by rw[←HR.out];simp[hp1,h8]
        clear HR
        go_wp2
        all_goals (go_ret;exact⟨rfl,HB.out⟩)
     ·have q4:(xp==4)=false:=by simp[lK]
      have q3:(xp==3)=false:=by simp[hp3]
      have q2:(xp==2)=false:=by simp[hp2]
      have q1:(xp==1)=false:=by simp[hp1]
      cases s
      ·obtain rfl:r=5:=by rw[←HR.out];simp[lK,hp3,hp2,hp1]
       clear HR
       go_wp2
       all_goals (go_ret;exact⟨rfl,HB.out⟩)
      ·obtain rfl:r=0:=by rw[←HR.out];simp[lK,hp3,hp2,hp1]
       clear HR
       go_wp2
       all_goals (go_ret;exact⟨rfl,HB.out⟩)
end Go.Proofs.YtmngcecomcadkaaGreatDoor
