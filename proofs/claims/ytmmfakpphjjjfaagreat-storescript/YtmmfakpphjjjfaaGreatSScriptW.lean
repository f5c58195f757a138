/- StoreScript: whatever is done to a store, call by call, it answers what the document says. -/
import Derived.Test.YtmmfakpphjjjfaaGreatG45
import Derived.Test.YtmmfakpphjjjfaaGreatG9
namespace Go.Proofs.YtmmfakpphjjjfaaGreat
open Go.RowKit
open Bm (Ov)
set_option linter.unusedVariables false

theorem rnew2_any (w : World) (q : Nat) (h : Pk q (fun g => g = q) w Dm.new) :
  Calls Tryz.prog 8 #[.pointer (some ⟨q, 0, none⟩)] w fun E w' => ∃ p F, E = .returned (.tuple #[.pointer (some ⟨p, 0, none⟩), .int .i64 0]) ∧ RW p q F w' rs0 ∧ (∀ g, F g → g = q ∨ w.heap.size ≤ g) ∧ Out (fun g => g = q) w w' := by
 refine (hopen_any q _ w Dm.new h (big_new.mono (by decide) (by decide))).mono ?_
 rintro E w' ⟨l, LG, PS, hc⟩
 have hl := rnew_log LG.out
 subst hl
 obtain ⟨F', k1, k2, k3⟩ := PS
 rcases hc with ⟨h0, _⟩ | ⟨_, p, G, rfl, hw, hg⟩
 ·exact absurd rnew_op.1 h0
 ·refine ⟨p, _, rfl, ⟨F', G, k1, hw, rfl⟩, ?_, k2⟩
  rintro g (e | e)
  ·exact k3 g e
  ·exact .inr (hg g e)

structure RB2 (w0 w : World) (s : Rl.Rs) (p q x y : Nat) (F G : Nat → Prop) : Prop where
 rw : RW p q F w s
 xw : XW x y G w s
 ap : ∀ g, F g → ¬ G g
 fb : ∀ g, F g → w0.heap.size ≤ g
 gb : ∀ g, G g → w0.heap.size ≤ g
 bel : Below w0.heap.size w0 w

theorem RB2.below {w0 w w' : World} {s : Rl.Rs} {p q x y : Nat} {F G : Nat → Prop} (h : RB2 w0 w s p q x y F G) (hb : Below w.heap.size w w') : RB2 w0 w' s p q x y F G :=
 ⟨h.rw.below hb, h.xw.below hb, h.ap, h.fb, h.gb, h.bel.trans (hb.mono h.bel.size)⟩

theorem RB2.stores {w0 w w1 w2 : World} {s : Rl.Rs} {p q x y ps xs : Nat} {F G H : Nat → Prop} {l : List Cm.Cv} {v : Value} {rs : List Cw} (h : RB2 w0 w s p q x y F G) (b1 : Below w.heap.size w w1) (hk : Sk ps p H w1 l) (hH : ∀ g, H g → w.heap.size ≤ g) (b2 : Below w1.heap.size w1 w2) (hy : YsV xs x w2 l v rs) (hY : ∀ g, YB xs v rs g → w1.heap.size ≤ g) (ok : Sto.Ok ⟨s, l⟩) :
  ∃ F' G', TP w0 w2 ⟨s, l⟩ ⟨s, l⟩ ps p q xs x y F' G' := by
 have b12 := b1.trans (b2.mono b1.size)
 have z0 := h.bel.size
 have z1 := b1.size
 have sw : SW ps p q (fun g => F g ∨ H g) w2 ⟨s, l⟩ := (sk_sw h.rw b1 hk hH ok).below b2
 have hHl : ∀ g, H g → g < w1.heap.size := fun g hg => (sk_sw h.rw b1 hk hH ok).lt g (.inr hg)
 refine ⟨_, fun g => G g ∨ YB xs v rs g, sw, ⟨G, v, rs, h.xw.below b12, hy, fun g hg hf => ?_, ok, rfl⟩, ?_, ?_, ?_, h.bel.trans (b12.mono z0)⟩
 ·have := hY g hg
  have := h.xw.lt g hf
  omega
 ·rintro g (e | e) (a | a)
  ·exact h.ap g e a
  ·have := hY g a
   have := h.rw.lt g e
   omega
  ·have := hH g e
   have := h.xw.lt g a
   omega
  ·have := hY g a
   have := hHl g e
   omega
 ·rintro g (e | e)
  ·exact h.fb g e
  ·have := hH g e
   omega
 ·rintro g (e | e)
  ·exact h.gb g e
  ·have := hY g e
   omega

set_option maxRecDepth 20000 in
set_option maxHeartbeats 16000000 in
theorem storeScript_walk (vr : Value) (rest : List Cw) (vl : Value) (l : List Bc) (vk : Value) (ks : List ByteArray) (fuse : Int) (w : World) (hr : IsC w vr rest) (hfr : FitC rest) (hlr : rest.length * 40 ≤ 140737488351232) (hq : IsR w vl l) (hfq : FitR l) (hlq : l.length * 56 ≤ 140737488351232) (hks : IsS w vk ks) (hkf : FitS ks) (hkl : ks.length * 16 ≤ 140737488351232) (hfu : (Lit.int .i64 fuse).wf = true) :
  Calls Tryz.prog 3 #[vr, vl, vk, .int .i64 fuse] w fun e w' => e = .returned (.bool true) ∧ Below w.heap.size w w' := by
 have i2 := range_i64 (zs := [fuse]) (by simpa using hfu) 0
 simp at i2
 have HQ := hide hq
 have HFQ := hide hfq
 have HK := hide hks
 have HKF := hide hkf
 have HRS := hide hr
 have HFR := hide hfr
 obtain ⟨ra, rcp, hvr, _, _⟩ := hr.1.shape
 obtain ⟨qa, qc, hvl, _, _⟩ := hq.1.shape
 obtain ⟨ka, kc, hvk, _, _⟩ := hks.shape
 have HS : Hid (∀ W, Below w.heap.size w W → Calls Tryz.prog 5 #[vl, vr] W fun E w' => E = .returned (.bool (smS l rest)) ∧ W = w') := hide fun W hb => ssmall_any vl vr l rest W (hq.below hb) (by omega) hfq (hr.below hb) hfr (by omega)
 subst hvl hvk hvr
 clear hq hfq hks hkf hr hfr
 go_enter Tryz.func3, Tryz.ntmps3
 go_wp2_with fail
 refine (slives_any w).mono ?_
 rintro E w1 ⟨rfl, b1⟩
 have B1 := hide b1
 have HS1 := hide (HS.out w1 b1)
 obtain ⟨sm, hsm⟩ : ∃ x, smS l rest = x := ⟨_, rfl⟩
 rw [hsm] at HS1
 clear b1 HS
 go_wp2_with fail
 refine HS1.out.mono ?_
 rintro E w' ⟨rfl, rfl⟩
 cases sm with
 | false =>
  go_wp2
  go_ret
  exact ⟨rfl, B1.out⟩
 | true =>
  by_cases hk20 : (20 : Int) < ks.length
  ·clear HS1 HQ hsm HK
   go_wp2
   go_ret
   exact ⟨rfl, B1.out⟩
  have hk2 : ks.length ≤ 20 := by omega
  obtain ⟨⟨hll, hal⟩, hrl, hrc⟩ := smS_is hsm
  have HAL := hide hal
  have HQ1 := hide (HQ.out.below B1.out)
  have HK1 : Hid (IsS w1 (.slice ka ks.length kc) ks) := hide (HK.out.below B1.out)
  have HR1 := hide (HRS.out.below B1.out)
  clear HS1 HQ hsm HK hal HRS
  go_wp2_with fail
  refine (new_any w1).mono ?_
  rintro E w2 ⟨rfl, K2, b2⟩
  go_wp2_with fail
  refine (newR_any w2).mono ?_
  rintro E w3 ⟨rfl, D3, b3⟩
  have sq2 : w1.heap.size < w2.heap.size := K2.lt _ rfl
  have sq3 : w2.heap.size < w3.heap.size := D3.lt _ rfl
  have b13 := b2.trans (b3.mono b2.size)
  have HO := hide (rnew2_any w3 w1.heap.size (K2.below b3))
  have D3h := hide D3
  have B13 := hide b13
  obtain ⟨q, hgq⟩ : ∃ z, w1.heap.size = z := ⟨_, rfl⟩
  obtain ⟨y, hgy⟩ : ∃ z, w2.heap.size = z := ⟨_, rfl⟩
  rw [hgq] at HO sq2
  rw [hgy] at D3h sq2 sq3
  rw [hgq, hgy]
  have HGQ := hide hgq
  clear K2 D3 b2 b3 b13 hgq hgy
  go_wp2_with fail
  refine HO.out.mono ?_
  rintro E w5 ⟨p, F5, rfl, RW5, f5, o5⟩
  have z5 := o5.size
  have D5 : Dk y (fun g => g = y) w5 Dm.new := D3h.out.out o5 fun g hg e => by omega
  have B15 : Below w1.heap.size w1 w5 := B13.out.trans (o5.below (fun g hg => by have := HGQ.out; omega) B13.out.size)
  have HX := hide (xnew_any w1 w5 y (by have := HGQ.out; omega) D5 B15)
  have RW5h := hide RW5
  have F5h := hide f5
  clear HO RW5 f5 o5 D5 B15 D3h
  go_wp2_with fail
  refine HX.out.mono ?_
  rintro E w6 ⟨x, G6, rfl, XW6, g6, o6, B16⟩
  have z6 := o6.size
  have RW6 : RW p q F5 w6 rs0 := RW5h.out.out o6 fun g hg e => by
   rcases F5h.out g hg with a | a <;> omega
  have AP6 : Hid (∀ g, F5 g → ¬ G6 g) := hide fun g hf hg => by
   have j1 := RW5h.out.lt g hf
   rcases F5h.out g hf with a | a <;> rcases g6 g hg with b | b <;> omega
  have FB6 : Hid (∀ g, F5 g → w1.heap.size ≤ g) := hide fun g hf => by
   have j2 := HGQ.out
   rcases F5h.out g hf with a | a <;> omega
  have GB6 : Hid (∀ g, G6 g → w1.heap.size ≤ g) := hide fun g hf => by
   have j2 := HGQ.out
   rcases g6 g hf with a | a <;> omega
  have HF1 := hide (rw_disk RW6 (st' := (Dm.fuse rs0.d fuse).2) fun F1 hP => fuse_any q F1 w6 rs0.d fuse hP)
  have X6h := hide XW6
  have B6h := hide B16
  clear HX XW6 RW6 RW5h F5h g6 o6 B16
  obtain ⟨z, hz⟩ : ∃ z, (Dm.fuse rs0.d fuse).1 = z := ⟨_, rfl⟩
  rw [hz] at HF1
  have hzz : (z != z) = false := by simp
  go_wp2_with fail
  refine HF1.out.mono ?_
  rintro E w7 ⟨rfl, F7, R7, o7, s7⟩
  have z7 := o7.size
  have X7 : XW x y G6 w7 rs0 := X6h.out.out o7 fun g hg e => AP6.out g e hg
  have HF2 := hide (xw_disk X7 (st' := (Dm.fuse rs0.d fuse).2) fun F1 hP => fuseR_any y F1 w7 rs0.d fuse hP)
  rw [hz] at HF2
  have R7h := hide R7
  have O7h := hide o7
  have S7h := hide s7
  clear HF1 R7 o7 s7 X7
  go_wp2_with fail
  refine HF2.out.mono ?_
  rintro E w8 ⟨rfl, G8, X8, o8, s8⟩
  have RB : Hid (RB2 w1 w8 ⟨(Dm.fuse rs0.d fuse).2, [], false⟩ p q x y F7 G8) := hide (by
   have j1 := B6h.out.size
   have nFG : ∀ g, F7 g → ¬ G6 g := fun g hf hg => by
    rcases S7h.out g hf with a | a
    ·exact AP6.out g a hg
    ·have := X6h.out.lt g hg
     omega
   have fb7 : ∀ g, F7 g → w1.heap.size ≤ g := fun g hf => by
    rcases S7h.out g hf with a | a
    ·exact FB6.out g a
    ·omega
   refine ⟨R7h.out.out o8 nFG, X8, fun g hf hg => ?_, fb7, fun g hg => ?_, (B6h.out.trans (O7h.out.below FB6.out j1)).trans (o8.below GB6.out (by omega))⟩
   ·rcases s8 g hg with a | a
    ·exact nFG g hf a
    ·have := R7h.out.lt g hf
     omega
   ·rcases s8 g hg with a | a
    ·exact GB6.out g a
    ·omega)
  clear HF2 X8 o8 s8 R7h O7h S7h AP6 FB6 GB6 X6h B6h
  have R8 := hide (HR1.out.below RB.out.bel)
  have LC := hide (lentCs_any _ rest w8 R8.out HFR.out (by omega))
  go_wp2_with fail
  refine LC.out.mono ?_
  rintro E w9 ⟨v9, rs9, rfl, own9, is9, lr9, b9⟩
  have hlen9 := cvs_len is9
  obtain ⟨g9, o9, k9, hv9, _, _, _, _⟩ := own9.row.full (by simp)
  obtain ⟨vs, hsl, isl⟩ := own9.row.slice_h Tryz.elemC Tryz.sizeC rest.length (by rw [List.length_append]; omega)
  rw [← hlen9, List.take_left] at isl
  have IC9 := hide (show IsC w9 vs rs9 from ⟨isl, lr9.inC is9 R8.out.2⟩)
  have FC9 := hide (fit_same is9 HFR.out)
  have IS9 := hide is9
  have LR9 := hide lr9
  have OW9 := hide own9.row
  have RB9 := hide (RB.out.below b9)
  have SO := hide (sopen_any p q F7 w9 ⟨(Dm.fuse rs0.d fuse).2, [], false⟩ vs rs9 RB9.out.rw IC9.out FC9.out (by omega))
  rw [is9] at SO
  obtain ⟨sa, sn, sk, hvs⟩ : ∃ a n k, vs = .slice a n k := by
   obtain ⟨c1, c2, c3, _⟩ := isl.shape
   exact ⟨c1, _, c2, c3⟩
  have hl93 : (rs9 ++ [behC, behC, behC]).length = rest.length + 3 := by rw [List.length_append, hlen9]; rfl
  rw [hl93] at hv9
  subst hv9 hvs
  have R9 := hide (R8.out.below b9)
  obtain ⟨fa, hfa⟩ : ∃ z, Cm.fol 1 (Cm.lastN 0 ([] : List Cm.Cv)) 0 (cvs rest) = z := ⟨_, rfl⟩
  have hfo : Cm.fol 1 (Cm.lastN 0 (⟨(Dm.fuse rs0.d fuse).2, [], false⟩ : Rl.Rs).l) 0 (cvs rest) = fa := hfa
  rw [hfo] at SO
  have HFA := hide hfa
  have hsl' : ∀ wx, (Instr.slice 22 (.slice (some ⟨g9, o9, none⟩) (rest.length + 3) k9) none (some (.int .i64 rest.length)) none).run Tryz.prog wx = .ok (.slice sa sn sk) wx := hsl
  clear LC own9 is9 lr9 isl b9 hsl hfa
  go_wp2_with fail
  refine SO.out.mono ?_
  rintro E wa (⟨hne, rfl, ba⟩ | ⟨h0, ps, rfl, H, hSk, hHg, ba⟩)
  ·have Ra := hide (R9.out.below ba)
   have DO := hide (dopen_any x y G8 wa ⟨(Dm.fuse rs0.d fuse).2, [], false⟩ _ rest (RB9.out.xw.below ba) Ra.out HFR.out (by omega))
   rw [hfo] at DO
   have KP : Hid (∀ W, Below wa.heap.size wa W → Calls Tryz.prog 15 #[.slice (some ⟨g9, o9, none⟩) (rest.length + 3) k9, .slice ra rest.length rcp] W fun E w' => E = .returned (.bool true) ∧ Below w.heap.size w w') := hide fun W hW => by
    have bW := ba.trans (hW.mono ba.size)
    refine (keptCs_yes _ _ rs9 rest _ W (OW9.out.below bW) IS9.out (LR9.out.below bW) (R9.out.below bW) HFR.out (by omega)).mono ?_
    rintro E w' ⟨rfl, b⟩
    exact ⟨rfl, B1.out.trans (((RB9.out.below bW).below b).bel.mono B1.out.size)⟩
   have NE := hide hne
   have hfb : (fa.1 != fa.1) = false := by simp
   clear SO ba
   go_wp2_with fail
   refine DO.out.mono ?_
   rintro E wb (⟨_, rfl, bb⟩ | ⟨h0, _⟩)
   ·have KB := hide (KP.out wb bb)
    clear DO KP bb
    go_wp2_with fail
    refine KB.out.mono ?_
    rintro E wc ⟨rfl, bc⟩
    have BC := hide bc
    go_wp2
    go_ret
    exact ⟨rfl, BC.out⟩
   ·exact absurd h0 hne
  ·have Ra := hide (R9.out.below ba)
   have DO := hide (dopen_any x y G8 wa ⟨(Dm.fuse rs0.d fuse).2, [], false⟩ _ rest (RB9.out.xw.below ba) Ra.out HFR.out (by omega))
   rw [hfo] at DO
   have KP : Hid (∀ W, Below wa.heap.size wa W → Calls Tryz.prog 15 #[.slice (some ⟨g9, o9, none⟩) (rest.length + 3) k9, .slice ra rest.length rcp] W fun E w' => E = .returned (.bool true) ∧ Below W.heap.size W w') := hide fun W hW => by
    have bW := ba.trans (hW.mono ba.size)
    exact keptCs_yes _ _ rs9 rest _ W (OW9.out.below bW) IS9.out (LR9.out.below bW) (R9.out.below bW) HFR.out (by omega)
   have hgd : Cm.Good 1 (Cm.lastN 0 ([] : List Cm.Cv)) (cvs rest) := (Cm.fol_good _ _ _ 0).1 (by rw [HFA.out]; exact h0)
   have OK0 : Hid (Sto.Ok ⟨⟨(Dm.fuse rs0.d fuse).2, [], false⟩, cvs rest⟩) := hide ⟨trivial, hgd⟩
   have SI0 : Hid (SIn 0 ⟨⟨(Dm.fuse rs0.d fuse).2, [], false⟩, cvs rest⟩) := hide (by
    have hl0 : (cvs rest).length = rest.length := cvs_length rest
    have e1 : (Rl.ops (cvs rest)).length ≤ (cvs rest).length * 8 := Rl.ops_len fun c hc => (Sto.good_ops hgd c hc).2.1
    refine ⟨show Big _ _ (Dm.fuse Dm.new fuse).2 by simpa using big_fuse big_new fuse i2.2, by simp, by simp [Rl.ops], by show (cvs rest).length ≤ _; omega, ?_⟩
    have e2 := fold_len ⟨⟨(Dm.fuse rs0.d fuse).2, [], false⟩, cvs rest⟩
    have e3 : (Rl.ops ([] : List Cm.Cv)).length = 0 := by simp [Rl.ops]
    simp only at e2
    omega)
   have SKh := hide hSk
   have HHg := hide hHg
   have BA := hide ba
   rw [h0] at DO
   clear SO ba hSk hHg hgd h0 hfo HFA
   go_wp2_with fail
   refine DO.out.mono ?_
   rintro E wb (⟨hn, _⟩ | ⟨_, xs, rfl, v', rs', hY, hYg, bb⟩)
   ·exact absurd rfl hn
   have KB := hide (KP.out wb bb)
   obtain ⟨F0, G0, T0⟩ := RB9.out.stores BA.out SKh.out HHg.out bb hY hYg OK0.out
   have T0h := hide T0
   clear DO KP bb T0 hY hYg SKh HHg BA RB9 RB R9 Ra LR9 OW9 IC9
   go_wp2_with fail
   refine KB.out.mono ?_
   rintro E wc ⟨rfl, bc⟩
   have T1 := hide (T0h.out.below bc)
   clear KB bc T0h
   go_wp2
   go_loopw [18] (fun iv wr => ∃ (j : Nat) (s : Sto.Ss) (F G : Nat → Prop), j ≤ l.length ∧ iv = .int .i64 j ∧ Hid (TP w1 wr s s ps p q xs x y F G) ∧ Hid (SIn j s)) (fun iv _ => l.length - (intOf iv).toNat)
   case atStart => exact ⟨0, _, F0, G0, by omega, rfl, T1, SI0⟩
   case round =>
    obtain ⟨j, s, F, G, hj, rfl, HP, HI⟩ := hrel
    clear T1 SI0
    by_cases hlt : j < l.length
    ·obtain ⟨qb, qo, qk, hvx, _, _, _, hcell⟩ := (HQ1.out.below HP.out.bel).full (by omega)
     simp only [Value.slice.injEq, true_and] at hvx
     obtain ⟨rfl, rfl⟩ := hvx
     obtain ⟨a, ha⟩ : ∃ a, l[j]? = some a := ⟨l[j], by rw [List.getElem?_eq_getElem]⟩
     obtain ⟨d0, d1, d2, d3, d4⟩ := hcell j a ha
     have AO := HQ1.out.2 a (List.mem_of_getElem? ha)
     have AF := HFQ.out a (List.mem_of_getElem? ha)
     obtain ⟨ao, ak, hao, _, _⟩ := AO.1.shape
     have PC := hide (scall_any w1 wr s ps p q xs x y F G HP.out j HI.out (by omega) a AO AF.1 (HAL.out a (List.mem_of_getElem? ha)))
     unfold bcv at PC
     rw [hao] at d4 PC
     have hlt' : (j : Int) < l.length := by omega
     have hj0 : (0 : Int) ≤ (j : Int) := by omega
     clear hcell ha hao AO AF
     go_wp2_with fail
     refine PC.out.mono ?_
     rintro E w6 ⟨rfl, s6, F6, G6, P6, I6⟩
     have SM := hide (ssame_any w1 w6 s6 ps p q xs x y F6 G6 P6 (j + 1) I6 (by omega) (.slice ka ks.length kc) ks (HK1.out.below P6.bel) HKF.out hk2)
     have HP6 := hide P6
     have HI6 := hide I6
     clear PC P6 I6 HP HI d0 d1 d2 d3 d4
     go_wp2_with fail
     refine SM.out.mono ?_
     rintro E w7 ⟨rfl, b7⟩
     have HP7 := hide (HP6.out.below b7)
     clear SM b7 HP6
     go_wp2
     go_roundw
     case rel => exact ⟨j + 1, s6, F6, G6, by omega, by go_num, HP7, HI6⟩
     case measure => simp [intOf]; omega
    ·obtain rfl : j = l.length := by omega
     have hlt' : ¬ (l.length : Int) < l.length := by omega
     have ok := HP.out.yy.ok
     have hro := HI.out.ro ok
     have hnum := HI.out.num
     have hops := HI.out.ops
     have hrest := HI.out.rest
     have hfold := HI.out.fold
     have hlv := live_len (Sto.fold s)
     have HAX : Hid (∀ W, Below wr.heap.size wr W → Calls Tryz.prog 19 #[.pointer (some ⟨xs, 0, none⟩)] W fun E w' => ∃ u, E = .returned u ∧ OwnO 65 W.heap.size w' u (Tm.live (Sto.fold s)) ∧ Below W.heap.size W w') := hide fun W hW => dAll_any xs x y G W s (HP.out.yy.below hW) (by omega) (by omega)
     have HAS : Hid (∀ W (n : Nat), Below wr.heap.size wr W → Calls Tryz.prog 21 #[.pointer (some ⟨ps, 0, none⟩), .int .i64 n] W fun E w' => ∃ v, E = .returned v ∧ OwnO 65 W.heap.size w' v ((Tm.live (Sto.fold s)).take n) ∧ Below W.heap.size W w') := hide fun W n hW => by
      have hT := HP.out.below hW
      have hS : Sn w1 W ps p q F s := ⟨hT.ss, HP.out.fb, hT.bel⟩
      exact hS.all n (by omega) (by omega)
     have HSM : Hid (∀ W, Below wr.heap.size wr W → Calls Tryz.prog 17 #[.pointer (some ⟨ps, 0, none⟩), .pointer (some ⟨xs, 0, none⟩), .slice ka ks.length kc] W fun E w' => E = .returned (.bool true) ∧ Below W.heap.size W w') := hide fun W hW => ssame_any w1 W s ps p q xs x y F G (HP.out.below hW) l.length HI.out (by omega) (.slice ka ks.length kc) ks (HK1.out.below (HP.out.below hW).bel) HKF.out hk2
     have HT1 : Hid (∀ W, Below wr.heap.size wr W → Calls Tryz.prog 22 #[.pointer (some ⟨q, 0, none⟩)] W fun E w' => E = .returned (.int .i64 s.r.d.count) ∧ W = w') := hide fun W hW => by
      obtain ⟨F1, G1, h1, _⟩ := (HP.out.below hW).ss
      obtain ⟨F2, G2, h2, _⟩ := h1
      exact steps_any q F2 W s.r.d h2
     have HT2 : Hid (∀ W, Below wr.heap.size wr W → Calls Tryz.prog 23 #[.pointer (some ⟨y, 0, none⟩)] W fun E w' => E = .returned (.int .i64 s.r.d.count) ∧ W = w') := hide fun W hW => by
      obtain ⟨F1, v1, r1, h1, _⟩ := (HP.out.below hW).yy
      obtain ⟨F2, v2, r2, h2, _⟩ := h1
      exact stepsR_any y F2 W s.r.d h2
     have FIN : Hid (∀ W, Below wr.heap.size wr W → Below w.heap.size w W) := hide fun W hW => B1.out.trans ((HP.out.below hW).bel.mono B1.out.size)
     generalize hlf : Tm.live (Sto.fold s) = lf at *
     generalize s.r.d.count = cn at *
     have hcn : ((cn : Int) == (cn : Int)) = true := by simp
     have HL1 := hide (show lf.length ≤ 1000 by omega)
     have X1 := hide (HAX.out wr (Below.refl _ _))
     clear HP HI ok hlf hlv hfold hrest hops hnum hro
     go_wp2_with fail
     refine X1.out.mono ?_
     rintro E wd ⟨u, rfl, ou, bd⟩
     obtain ⟨ua, uk, hu, _, _⟩ := ou.is.shape
     subst hu
     have hl1 := HL1.out
     obtain ⟨hp0, hp1⟩ := pk_lt fuse ((lf.length : Int) + 1) (by omega)
     have hwl : IntKind.i64.wrap ((lf.length : Int) + 1) = (lf.length : Int) + 1 := wrap_i64_small _ (by omega) (by omega)
     have PK := hide (pickx_any fuse ((lf.length : Int) + 1) wd (by omega) (by omega) ⟨i2.1, i2.2⟩)
     obtain ⟨n, hn⟩ : ∃ n : Nat, pk fuse ((lf.length : Int) + 1) = n := ⟨(pk fuse ((lf.length : Int) + 1)).toNat, by omega⟩
     rw [hn] at PK hp1
     have hnl : n ≤ lf.length := by omega
     have X2 := hide (HAS.out wd n bd)
     have BD := hide bd
     clear X1 ou bd hn
     go_wp2_with fail
     refine PK.out.mono ?_
     rintro E we ⟨rfl, rfl⟩
     clear PK
     go_wp2_with fail
     refine X2.out.mono ?_
     rintro E wf ⟨v2, rfl, o2, bf⟩
     have BF := hide (BD.out.trans (bf.mono BD.out.size))
     have X3 := hide (HAX.out wf BF.out)
     obtain ⟨a2, k2, hv2, _, _⟩ := o2.is.shape
     subst hv2
     have O2 := hide o2
     clear X2 o2 bf HAS HAX
     go_wp2_with fail
     refine X3.out.mono ?_
     rintro E wg ⟨v3, rfl, o3, bg⟩
     have BG := hide (BF.out.trans (bg.mono BF.out.size))
     obtain ⟨v4, hs4, i4⟩ := o3.is.slice_h Tryz.elemO Tryz.sizeO n hnl
     obtain ⟨a3, k3, hv3, _, _⟩ := o3.is.shape
     have SO2 := hide (sameO_any _ _ _ _ wg (O2.out.below bg).is i4 (by rw [List.length_take]; omega) (by rw [List.length_take]; omega))
     rw [Bm.sameL_self] at SO2
     obtain ⟨a4, n4, k4, hv4⟩ : ∃ a n k, v4 = .slice a n k := by
      obtain ⟨c1, c2, c3, _⟩ := i4.shape
      exact ⟨c1, _, c2, c3⟩
     subst hv3 hv4
     rw [show (List.take n lf).length = n by rw [List.length_take]; omega] at SO2
     clear X3 o3 bg i4 O2
     go_wp2_with fail
     refine SO2.out.mono ?_
     rintro E wh ⟨rfl, bh⟩
     have BH := hide (BG.out.trans (bh.mono BG.out.size))
     have X5 := hide (HSM.out wh BH.out)
     clear SO2 bh HSM
     go_wp2_with fail
     refine X5.out.mono ?_
     rintro E wi ⟨rfl, bi⟩
     have BI := hide (BH.out.trans (bi.mono BH.out.size))
     have X6 := hide (HT1.out wi BI.out)
     have X7 := hide (HT2.out wi BI.out)
     have FI := hide (FIN.out wi BI.out)
     clear X5 bi HT1 HT2 FIN
     go_wp2_with fail
     refine X6.out.mono ?_
     rintro E wj ⟨rfl, rfl⟩
     clear X6
     go_wp2_with fail
     refine X7.out.mono ?_
     rintro E wj ⟨rfl, rfl⟩
     clear X7
     go_wp2
     go_ret
     exact ⟨rfl, FI.out⟩

end Go.Proofs.YtmmfakpphjjjfaaGreat
