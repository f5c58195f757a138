/- Texts of one layer, one behind the other. -/
import Derived.Test.YtkpnkknolobioaaGreatG23
import Derived.Test.YtkpnkknolobioaaGreatG21
import Derived.Test.YtkpnkknolobioaaGreatG13
import Derived.Test.YtkpnkknolobioaaGreatG1
/- The document's disk: Write. -/
namespace Go.Proofs.YtkpnkknolobioaaGreat
open Go.RowKit Go.Shelf
set_option linter.unusedVariables false

/-- Between two raw writes of the document's. -/
def WR (p : Nat) (F : Nat → Prop) (w : World) (st : Dm.Ds) (f : Nat) (bs : List Int) (k : Nat) (wr : World) : Prop :=
  ∃ F' sk, Dk p F' wr sk ∧ Out F w wr ∧ (∀ g, F' g → F g ∨ w.heap.size ≤ g) ∧ Dm.wrt f bs.length st bs = Dm.wrt f (bs.length - k) sk (bs.drop (k * 64)) ∧ sk.wait.length ≤ st.wait.length + k ∧ sk.count ≤ st.count + k ∧ sk.left ≤ st.left

theorem wrt_next {f m : Nat} {sk : Dm.Ds} {cs : List Int} (hc : cs ≠ []) : Dm.wrt f (m + 1) sk cs = if Dm.off sk then (6, Dm.dark sk) else Dm.wrt f m (Dm.push (Dm.burn sk) ⟨f, false, 0, cs.take 64⟩) (cs.drop 64) := by rw [Dm.wrt, if_neg hc]

theorem wrt_nil {f m : Nat} {sk : Dm.Ds} : Dm.wrt f m sk [] = (0, sk) := by cases m <;> simp [Dm.wrt]

/-- A raw write was done. -/
theorem WR.next {p : Nat} {F F3 F4 : Nat → Prop} {w wr w3 w4 : World} {st sk : Dm.Ds} {f : Nat} {bs : List Int} {k : Nat} (hO : Out F w wr) (hS3 : ∀ g, F3 g → F g ∨ w.heap.size ≤ g) (hO3 : Out F w w3) (he : Dm.wrt f bs.length st bs = Dm.wrt f (bs.length - k) sk (bs.drop (k * 64))) (hlt : k * 64 < bs.length) (hoff : Dm.off sk = false)
    (h1 : sk.wait.length ≤ st.wait.length + k) (h2 : sk.count ≤ st.count + k) (h3 : sk.left ≤ st.left) (K4 : Dk p F4 w4 (Dm.push (Dm.burn sk) ⟨f, false, 0, (bs.drop (k * 64)).take 64⟩)) (O4 : Out F3 w3 w4) (S4 : ∀ g, F4 g → F3 g ∨ w3.heap.size ≤ g) : WR p F w st f bs (k + 1) w4 := by
  refine ⟨F4, _, K4, hO3.trans O4 hS3, fun g hg => ?_, ?_, ?_, ?_, ?_⟩
  · rcases S4 g hg with h | h
    · exact hS3 g h
    · exact .inr (Nat.le_trans hO3.size h)
  · rw [he]
    have hc : bs.drop (k * 64) ≠ [] := by
      intro h
      have := congrArg List.length h
      rw [List.length_drop] at this
      simp at this
      omega
    have e1 : bs.length - k = (bs.length - (k + 1)) + 1 := by omega
    rw [e1, wrt_next hc, hoff, if_neg (by simp), List.drop_drop, show k * 64 + 64 = (k + 1) * 64 by omega]
  · show (sk.wait ++ [_]).length ≤ _
    rw [List.length_append]
    simp
    omega
  · show sk.count + 1 ≤ _
    omega
  · show (if sk.has then sk.left - 1 else sk.left) ≤ _
    split <;> omega

set_option maxRecDepth 100000 in
set_option maxHeartbeats 8000000 in
theorem wrtR_any (p : Nat) (F : Nat → Prop) (w : World) (st : Dm.Ds) (f : Nat) (hf : f < 4) (vb : Value) (bs : List Int) (h : Dk p F w st) (hon : st.on = true) (hb : Is .u8 w vb bs) (hbF : 0 < bs.length → ∀ b, vb.ownBlock = some b → ¬ F b) (hLm : bs.length ≤ 60000)
    (hw : st.wait.length ≤ 900000) (hl : st.left ≤ 9223372036854775807) (hc : st.count ≤ 900000) :
    Calls Tryz.prog 9 #[.pointer (some ⟨p, 0, none⟩), .int .i64 f, vb] w fun E w' => E = .returned (.int .i64 (Dm.wrt f bs.length st bs).1) ∧ DStep p F w w' (Dm.wrt f bs.length st bs).2 := by
  have HA := hide (askedR_any p F w st h)
  have hk := ask_on hon
  have hisb : ∀ W, Out F w W → Is .u8 W vb bs := fun W hO => by
    by_cases h0 : 0 < bs.length
    · have h1 := hb.lt h0
      exact hb.agree fun g hg => hO.block g (h1 g hg) (hbF h0 g hg)
    · refine ⟨hb.1, ?_⟩
      rcases hb.2 with h1 | ⟨ad, cp, h1, h2, h3, _⟩
      · exact .inl h1
      · exact .inr ⟨ad, cp, h1, h2, h3, fun i hi => by omega⟩
  have HIB := hide hisb
  have hlr := hb.len_run Tryz.elemP
  simp only [goInt] at hlr
  have I0 : Hid (WR p F w st f bs 0 w) := hide ⟨F, st, h, Out.refl _ _, fun g hg => .inl hg, by simp, by omega, by omega, by omega⟩
  have hf0 : ¬ (f : Int) < 0 := by omega
  have hf4 : ¬ (4 : Int) ≤ (f : Int) := by omega
  have hmx := Tryz.mixed
  clear h hon hisb hbF hb
  go_enter Tryz.func9, Tryz.ntmps9
  go_wp2_with fail
  refine HA.out.mono ?_
  rintro E w1 ⟨rfl, rfl⟩
  rw [hk]
  go_wp2
  go_loopw [7, 8, 9] (fun _ iv _ wr => ∃ k : Nat, k * 64 < bs.length + 64 ∧ iv = .int .i64 (k * 64 : Nat) ∧ Hid (WR p F w st f bs k wr)) (fun _ iv _ _ => bs.length + 64 - (intOf iv).toNat)
  case atStart => exact ⟨0, by omega, rfl, I0⟩
  case round =>
    obtain ⟨k, hk2, rfl, I⟩ := hrel
    obtain ⟨F', sk, K, hO, hS, he, z1, z2, z3⟩ := I.out
    obtain ⟨q, hq⟩ : ∃ q, q = k * 64 := ⟨_, rfl⟩
    rw [← hq]
    by_cases hlt : q < bs.length
    · have ST := hide (stepR_any p F' wr sk K (by omega) (by omega))
      have hlt' : (q : Int) < bs.length := by omega
      have hq0 : (0 : Int) ≤ (q : Int) := by omega
      cases hoff : Dm.off sk
      · rw [hoff] at ST
        simp only [Bool.false_eq_true, if_false] at ST
        have HOFF := hide hoff
        have HO := hide hO
        have HS := hide hS
        have HE := hide he
        have HZ := hide (And.intro z1 (And.intro z2 z3))
        have HQ := hide hq
        clear K hO hS he z1 z2 z3 hoff I hq
        go_wp2_with fail
        refine ST.out.mono ?_
        rintro E w3 ⟨rfl, F3, ⟨s3, wv3, rs3, K3⟩, O3, S3⟩
        have O03 : Out F w w3 := HO.out.trans O3 HS.out
        have S03 : ∀ g, F3 g → F g ∨ w.heap.size ≤ g := fun g hg => by
          rcases S3 g hg with h | h
          · exact HS.out g h
          · exact .inr (Nat.le_trans HO.out.size h)
        have hl3 := K3.len
        have hlw : (Dm.burn sk).wait.length = sk.wait.length := rfl
        have c5 := K3.c5
        have f5 := K3.froz 5
        obtain ⟨e, hem⟩ : ∃ e, e = min 64 (bs.length - q) := ⟨_, rfl⟩
        obtain ⟨vs, hsl, isl⟩ := (HIB.out w3 O03).slice_lh Tryz.elemP Tryz.sizeP q (q + e) (by omega) (by omega)
        have ec : (bs.drop q).take (q + e - q) = (bs.drop q).take 64 := by
          rw [Nat.add_sub_cancel_left]
          by_cases h1 : 64 ≤ bs.length - q
          · rw [hem, Nat.min_eq_left h1]
          · rw [hem, Nat.min_eq_right (by omega), List.take_of_length_le (by rw [List.length_drop]; omega), List.take_of_length_le (by rw [List.length_drop]; omega)]
        rw [ec] at isl
        have hcl : ((bs.drop q).take 64).length = e := by rw [List.length_take, List.length_drop]; omega
        have X1 : Hid (∀ ty, ∃ v' w', (Builtin.append_ #[22, 22] ty #[.slice none 0 0, vs]).run Tryz.prog w3.drew = .ok v' w' ∧ (Own .u8 5 w3.heap.size w' v' ((bs.drop q).take 64) ∧ Below w3.heap.size w3 w' ∧ w'.cell? ⟨p, 5, none⟩ = some wv3 ∧ ∃ a n c, v' = .slice a n c)) := hide fun ty => by
          obtain ⟨v', w', hr, own', gr', at'⟩ := run_append_is_at (P := Tryz.prog) (w := w3.drew) 22 ty .u8 5 w3.heap.size 1 Tryz.underlying22 Tryz.info5 (by decide) _ [] (Own.nil _ _ _ _) vs _ (isl.drewN 1) (by simp only [List.length_nil, hcl]; omega) (Nat.le_refl _)
          have bw : Below w3.heap.size w3 w' := (below_drewN (Below.refl _ _) 1).trans ((Below.refl _ _).grown gr' (Nat.le_refl _) fun g hg => by simp [Value.ownBlock] at hg)
          exact ⟨v', w', hr, own', bw, (bw.cell (p := ⟨p, 5, none⟩) (K3.lt p K3.inp)).trans c5, own'.is.form⟩
        have X2 : Hid (∀ v1 w1, Own .u8 5 w3.heap.size w1 v1 ((bs.drop q).take 64) → Below w3.heap.size w3 w1 → ∃ V, w1.alloc (.cells #[.int .i64 f, .bool false, .int .i64 0, v1] 72) = V ∧ V.cell? ⟨p, 5, none⟩ = some wv3 ∧ Hid (∀ ty, ∃ v' w', (Builtin.append_ #[60, 60] ty #[wv3, .slice (some ⟨w1.heap.size, 0, none⟩) 1 1]).run Tryz.prog V = .ok v' w' ∧ (WR p F w st f bs (k + 1) (w'.setCell ⟨p, 5, none⟩ v') ∧ w'.cell? ⟨p, 5, none⟩ = some wv3 ∧ w'.frozen? ⟨p, 5, none⟩ = false ∧ ∃ a n c, v' = .slice a n c))) := hide fun v1 w1 own1 bel1 => by
          have hz := HZ.out
          obtain ⟨V, hV, d5, X⟩ := pushR_tail K3 bel1 (.inr trivial) ⟨f, false, 0, v1, (bs.drop q).take 64⟩ ⟨own1.is, fun b hb => ⟨trivial, by obtain ⟨cs, h1⟩ := own1.type hb; exact ⟨cs, _, h1⟩⟩⟩ ⟨hf, fun h => by simp [Rv.r] at h, fun _ => by show 1 ≤ ((bs.drop q).take 64).length ∧ ((bs.drop q).take 64).length ≤ 64; omega⟩ (by omega)
          refine ⟨V, hV, d5, hide fun ty => ?_⟩
          obtain ⟨v', w', hr, ⟨F4, g1, g2, g3⟩, rest⟩ := X.out ty
          refine ⟨v', w', hr, ?_, rest⟩
          refine WR.next HO.out S03 O03 HE.out (by have := HQ.out; omega) HOFF.out hz.1 hz.2.1 hz.2.2 (F4 := F4) (by rw [← HQ.out]; exact g1) g2 fun g hg => ?_
          rcases g3 g hg with h | h | h
          · exact .inl h
          · exact .inr h
          · exact .inr (own1.block g h).1
        have hw2 : IntKind.i64.wrap ((q : Int) + 64) = (q : Int) + 64 := wrap64s _ (by omega) (by omega)
        clear K3 O3 S3 O03 S03 isl ec
        have hite : (if (q : Int) + 64 < (bs.length : Int) then (q : Int) + 64 else (bs.length : Int)) = ((q + e : Nat) : Int) := by split <;> omega
        have hsl' : ∀ wx, (Instr.slice 22 vb (some (.int .i64 q)) (some (.int .i64 (if (q : Int) + 64 < (bs.length : Int) then (q : Int) + 64 else (bs.length : Int)))) none).run Tryz.prog wx = .ok vs wx := by
          rw [hite]
          exact hsl
        clear hsl hem hcl hlw hl3 hite
        go_wp2_with fail
        go_region_law (first
          | (have ow := OC; refine step_append_at rfl (.tmp 36) (.tmp 49) 60 rfl wv3 (.slice (some ⟨w6.heap.size, 0, none⟩) 1 1) (by first | (simp [Act.eval]; done) | (simp [Act.eval, Act.put]; done)) (by first | (simp [Act.eval]; done) | (simp [Act.eval, Act.put]; done)) XX.out ?_; rintro v7 w7 ⟨J, d7, g7, a7, n7, k7, rfl⟩; have J := hide J)
          | (refine step_append_at rfl (.tmp 38) (.tmp 46) 22 rfl (.slice none 0 0) vs (by first | (simp [Act.eval]; done) | (simp [Act.eval, Act.put]; done)) (by first | (simp [Act.eval]; done) | (simp [Act.eval, Act.put]; done)) X1.out ?_; rintro v6 w6 ⟨own6, bel6, d6, a6, n6, k6, rfl⟩; obtain ⟨V, hV, v5, XX⟩ := X2.out _ w6 own6 bel6; have OC := hide own6; clear own6))
        all_goals
          go_wp2
          go_roundw
          case rel => exact ⟨k + 1, by have := HQ.out; omega, by have := HQ.out; congr 1; omega, J⟩
          case measure => simp [intOf]; have := HQ.out; omega
      · rw [hoff] at ST
        simp only [if_true] at ST
        have hcs : bs.drop (k * 64) ≠ [] := by
          intro h
          have := congrArg List.length h
          rw [List.length_drop] at this
          simp at this
          omega
        have e2 : Dm.wrt f bs.length st bs = (6, Dm.dark sk) := by
          rw [he, show bs.length - k = (bs.length - (k + 1)) + 1 by omega, wrt_next hcs, hoff, if_pos rfl]
        have HE := hide e2
        have HO := hide hO
        have HS := hide hS
        clear K hO hS he z1 z2 z3 hoff I hq e2 hcs
        go_wp2_with fail
        refine ST.out.mono ?_
        rintro E w3 ⟨rfl, J⟩
        have J := hide (DStep.trans HO.out HS.out J)
        go_wp2
        go_ret
        exact ⟨by rw [HE.out]; rfl, by rw [HE.out]; exact J.out⟩
    · have hlt' : ¬ (q : Int) < bs.length := by omega
      have e2 : Dm.wrt f bs.length st bs = (0, sk) := by
        rw [he, List.drop_eq_nil_of_le (by omega), wrt_nil]
      have HE := hide e2
      have J : Hid (DStep p F w wr sk) := hide ⟨F', K, hO, hS⟩
      clear K hO hS he z1 z2 z3 I hq e2
      go_wp2
      go_ret
      exact ⟨by rw [HE.out]; rfl, by rw [HE.out]; exact J.out⟩

end Go.Proofs.YtkpnkknolobioaaGreat

/- The document's Write. -/
namespace Go.Proofs.YtkpnkknolobioaaGreat
open Go.RowKit Go.Shelf
set_option linter.unusedVariables false

set_option maxRecDepth 20000 in
set_option maxHeartbeats 2000000 in
theorem writeR_any (p : Nat) (F : Nat → Prop) (w : World) (st : Dm.Ds) (file : Int) (vb : Value) (bs : List Int) (h : Dk p F w st) (hb : Is .u8 w vb bs) (hbF : 0 < bs.length → ∀ b, vb.ownBlock = some b → ¬ F b) (hLm : bs.length ≤ 60000)
    (hw : st.wait.length ≤ 900000) (hl : st.left ≤ 9223372036854775807) (hc : st.count ≤ 900000) :
    Calls Tryz.prog 9 #[.pointer (some ⟨p, 0, none⟩), .int .i64 file, vb] w fun E w' => E = .returned (.int .i64 (Dm.write st file bs).1) ∧ DStep p F w w' (Dm.write st file bs).2 := by
  have HA := hide (askedR_any p F w st h)
  have HK := hide h
  unfold Dm.write
  cases hon : st.on
  · rw [if_pos rfl]
    have hk := ask_off hon
    clear hon h
    go_enter Tryz.func9, Tryz.ntmps9
    go_wp2_with fail
    refine HA.out.mono ?_
    rintro E w1 ⟨rfl, rfl⟩
    rw [hk]
    go_wp2
    go_ret
    exact ⟨rfl, DStep.same HK.out (Below.refl _ _)⟩
  · rw [if_neg (by simp)]
    have hk := ask_on hon
    cases hin : Dm.inF file
    · rw [if_pos rfl]
      have hcase := not_inF hin
      clear hon h hin
      rcases hcase with hc1 | ⟨hc1, hc2⟩
      all_goals
        go_enter Tryz.func9, Tryz.ntmps9
        go_wp2_with fail
        refine HA.out.mono ?_
        rintro E w1 ⟨rfl, rfl⟩
        rw [hk]
        go_wp2
        go_ret
        exact ⟨rfl, DStep.same HK.out (Below.refl _ _)⟩
    · rw [if_neg (by simp)]
      obtain ⟨f, hf, rfl⟩ := inF_nat hin
      rw [Int.toNat_natCast]
      exact wrtR_any p F w st f hf vb bs h hon hb hbF hLm hw hl hc

theorem DStep.pre {p : Nat} {F : Nat → Prop} {w w1 w2 : World} {st' : Dm.Ds} (hb : Below w.heap.size w w1) (h : DStep p F w1 w2 st') : DStep p F w w2 st' := h.trans (Out.of_below hb) fun g hg => .inl hg

end Go.Proofs.YtkpnkknolobioaaGreat

/- The document's Write of a section (layer 19). -/
namespace Go.Proofs.YtkpnkknolobioaaGreat
open Go.RowKit
set_option linter.unusedVariables false

set_option maxRecDepth 20000 in
set_option maxHeartbeats 8000000 in
theorem owrR_any (p : Nat) (F : Nat → Prop) (w : World) (st : Dm.Ds) (base e f : Int) (v : Value) (rs : List Cw) (hc : IsC w v rs) (hf : FitC rs) (hl : rs.length ≤ 100) (h : Dk p F w st) (t u : Nat) (hB : Big t u st) (ht : t ≤ 100000000000) (hu : u ≤ 800000) :
    Calls Tryz.prog 16 #[.pointer (some ⟨p, 0, none⟩), .int .i64 base, .agg #[.int .i64 e, .int .i64 f, v]] w fun E w' => E = .returned (.int .i64 (Orp.wrS st base ⟨e, f, cvs rs⟩).1) ∧ DStep p F w w' (Orp.wrS st base ⟨e, f, cvs rs⟩).2 := by
  obtain ⟨w1, hw1, sz1, bel1, hBx⟩ := blk_step w #[.int .i64 e, .int .i64 f, v] 25
  obtain ⟨s, hs⟩ : ∃ s : Orp.Se, ⟨e, f, cvs rs⟩ = s := ⟨_, rfl⟩
  have D1 := hide (h.below bel1)
  have FLT : Hid (∀ g, F g → g < w.heap.size) := hide h.lt
  have EN := hide (oencR_any e f v rs w1 (hc.below bel1) hf (by omega))
  unfold cmv at EN
  rw [hs] at EN ⊢
  obtain ⟨rr, hrr⟩ : ∃ x, Orp.wrS st base s = x := ⟨_, rfl⟩
  rw [hrr]
  have HRR := hide hrr
  have hsl : s.cs.length = rs.length := by rw [← hs]; exact cvs_many rs
  obtain ⟨va, vk, hv, _, _⟩ := hc.1.shape
  have B1 := hide bel1
  have k0 : w1.cell? ⟨w.heap.size, 0, none⟩ = some (.int .i64 e) := blk_cell hBx 0 rfl
  have k1 : w1.cell? ⟨w.heap.size, 1, none⟩ = some (.int .i64 f) := blk_cell hBx 1 rfl
  have k2 : w1.cell? ⟨w.heap.size, 2, none⟩ = some v := blk_cell hBx 2 rfl
  obtain ⟨c0, c6⟩ : w1.cell? ⟨p, 0, none⟩ = some (.bool true) ∧ w1.cell? ⟨p, 6, none⟩ = some (.bool st.on) := by
    obtain ⟨s', wv', rs', hd⟩ := D1.out
    exact ⟨hd.c0, hd.c6⟩
  rw [hv] at hw1 k2 EN
  subst hv
  clear hc hf h bel1 hBx hs hrr
  cases hon : st.on with
  | false =>
    rw [hon] at c6
    have HR := hide (HRR.out.symm.trans (Orp.wrS_off hon))
    have FIN : Hid (DStep p F w w1 st) := hide (DStep.pre B1.out (DStep.same D1.out (Below.refl _ _)))
    clear hon EN D1
    go_enter Tryz.func16, Tryz.ntmps16
    go_wp2
    go_ret
    rw [HR.out]
    exact ⟨rfl, FIN.out⟩
  | true =>
  rw [hon] at c6
  have HON := hide hon
  clear hon
  obtain ⟨ck, hck⟩ : ∃ z, Orp.chk s = z := ⟨_, rfl⟩
  rw [hck] at EN
  have HCK := hide hck
  clear hck
  go_enter Tryz.func16, Tryz.ntmps16
  go_wp2_with fail
  refine EN.out.mono ?_
  rintro E w2 ⟨vb, rfl, ownb, bel2⟩
  have D2 := hide (D1.out.below bel2)
  have B2 := hide (B1.out.trans (bel2.mono B1.out.size))
  obtain ⟨xa, xn, xk, hvb⟩ := ownb.is.form
  clear EN k0 k1 k2 c0 c6
  by_cases hc0 : ck = 0
  · subst hc0
    rw [Orp.out_ok HCK.out] at ownb
    have hlb : (Orp.sec s).length ≤ 50000 := by have := Orp.sec_le HCK.out; omega
    have OB := hide ownb
    have VB : Hid (∀ g, vb.ownBlock = some g → w.heap.size < g ∧ g < w2.heap.size) := hide fun g hg => by have := ownb.block g hg; omega
    have HO := hide (holdsR_any p F w2 st 3 D2.out (by decide) (by have := hB.1.1 3; omega) (by have := hB.1.2.1; omega))
    rw [hvb] at OB VB
    subst hvb
    clear ownb
    go_wp2_with fail
    refine HO.out.mono ?_
    rintro E w3 ⟨vh, rfl, ownh, bel3⟩
    obtain ⟨ha, hk, hvh, _, _⟩ := ownh.is.shape
    obtain ⟨nh, hnh⟩ : ∃ z, (Orp.hl st).length = z := ⟨_, rfl⟩
    have hnh' : (Dm.hold 3 (st.sure 3) st.wait).length = nh := hnh
    rw [hnh'] at hvh
    have hnb : nh ≤ 100000000000 := by rw [← hnh']; have := Dm.hold_len st.wait (st.sure 3) 3; have := hB.1.1 3; omega
    have D3 := hide (D2.out.below bel3)
    have B3 := hide (B2.out.trans (bel3.mono B2.out.size))
    have OB3 := hide (OB.out.below bel3)
    have s3 := bel3.size
    have HNH := hide hnh
    subst hvh
    clear HO ownh bel3 OB D2 B2 hnh hnh'
    by_cases hbad : base < 0 ∨ (nh : Int) < base
    · have HR := hide (HRR.out.symm.trans (Orp.wrS_arg HON.out HCK.out (by rw [HNH.out]; exact hbad)))
      have FIN : Hid (DStep p F w w3 st) := hide (DStep.pre B3.out (DStep.same D3.out (Below.refl _ _)))
      by_cases hb0 : base < 0
      · clear hbad
        go_wp2
        go_ret
        rw [HR.out]
        exact ⟨rfl, FIN.out⟩
      · have hb1 : (nh : Int) < base := by omega
        clear hbad
        go_wp2
        go_ret
        rw [HR.out]
        exact ⟨rfl, FIN.out⟩
    have hb0 : ¬ base < 0 := by omega
    have hb1 : ¬ (nh : Int) < base := by omega
    have HW1 := hide (HRR.out.symm.trans (Orp.wrS_go HON.out HCK.out (by rw [HNH.out]; exact hbad)))
    clear hbad
    by_cases hcut : base < nh
    · have CU := hide (cutR_any p F w3 st 3 base D3.out (fun f => by have := hB.1.1 f; omega) (by have := hB.1.2.1; omega) hB.2 (by have := hB.1.2.2; omega))
      have hbB := big_cut hB 3 base
      obtain ⟨⟨e4, st4⟩, h4⟩ : ∃ x, Dm.cutD st 3 base = x := ⟨_, rfl⟩
      have H4 := hide h4
      rw [h4] at CU hbB
      simp only at CU hbB
      clear h4
      go_wp2_with fail
      refine CU.out.mono ?_
      rintro E w4 ⟨rfl, F4, D4', O4, S4⟩
      have D4 := hide D4'
      have OUT4 : Hid (Out F w w4 ∧ ∀ g, F4 g → F g ∨ w3.heap.size ≤ g) := hide ⟨(Out.of_below B3.out).trans O4 (fun g hg => .inl hg), S4⟩
      have IB4 : Hid (Is .u8 w4 (.slice xa xn xk) (Orp.sec s)) := hide (OB3.out.is.agree fun g hg => O4.block g (by have := VB.out g hg; omega) fun hF => by have := VB.out g hg; have := FLT.out g hF; omega)
      have NF4 : Hid (∀ g, (Value.slice xa xn xk).ownBlock = some g → ¬ F4 g) := hide fun g hg hF => by
        have q := VB.out g hg
        rcases S4 g hF with q2 | q2
        · have := FLT.out g q2; omega
        · omega
      clear CU D4' O4 S4 D3
      by_cases he4 : e4 = 0
      · subst he4
        have hW : Orp.wr1 st base s = Orp.wr2 st4 s := by rw [wr1_cut (by rw [HNH.out]; exact hcut) (by rw [H4.out]), H4.out]
        have HW := hide (HW1.out.trans hW)
        have hBc : Big t (u + 1) st4 := hbB
        clear hW hcut hbB
        have WR := hide (writeR_any p F4 w4 st4 3 (.slice xa xn xk) (Orp.sec s) D4.out IB4.out (fun _ => NF4.out) (by omega) (by have := hBc.1.2.1; omega) hBc.2 (by have := hBc.1.2.2; omega))
        have hB5 := big_write hBc 3 (Orp.sec s)
        have hcn : cnt (Orp.sec s).length ≤ 782 := by unfold cnt; omega
        have E1 := hide (fun h => wr2_e1 (st := st4) (s := s) h)
        have E2 := hide (fun h q => wr2_e2 (st := st4) (s := s) h q)
        have E3 := hide (fun h q => wr2_e3 (st := st4) (s := s) h q)
        obtain ⟨⟨e5, st5⟩, h5⟩ : ∃ x, Dm.write st4 3 (Orp.sec s) = x := ⟨_, rfl⟩
        rw [h5] at WR hB5 E1 E2 E3
        simp only at WR hB5 E1 E2 E3
        rw [← HW.out] at E1 E2 E3
        clear h5 IB4 NF4
        go_wp2_with fail
        refine WR.out.mono ?_
        rintro E w5 ⟨rfl, F5, D5', O5, S5⟩
        have D5 := hide D5'
        have OUT5 : Hid (Out F w w5 ∧ ∀ g, F5 g → F g ∨ w.heap.size ≤ g) := hide ⟨OUT4.out.1.trans O5 (fun g hg => (OUT4.out.2 g hg).imp_right fun q => Nat.le_trans B3.out.size q), fun g hg => by
          rcases S5 g hg with q | q
          · exact (OUT4.out.2 g q).imp_right fun q => Nat.le_trans B3.out.size q
          · exact .inr (Nat.le_trans OUT4.out.1.size q)⟩
        clear WR D5' O5 S5 D4 OUT4
        by_cases he5 : e5 = 0
        · subst he5
          have SY := hide (syncR_any p F5 w5 st5 D5.out (fun f => by have := hB5.1.1 f; omega) (by have := hB5.1.2.1; omega) hB5.2 (by have := hB5.1.2.2; omega))
          obtain ⟨⟨e6, st6⟩, h6⟩ : ∃ x, Dm.sync st5 = x := ⟨_, rfl⟩
          rw [h6] at SY E2 E3
          simp only at SY E2 E3
          clear h6
          go_wp2_with fail
          refine SY.out.mono ?_
          rintro E w6 ⟨rfl, F6, D6', O6, S6⟩
          have FIN : Hid (DStep p F w w6 st6) := hide ⟨F6, D6', OUT5.out.1.trans O6 OUT5.out.2, fun g hg => by
            rcases S6 g hg with q | q
            · exact OUT5.out.2 g q
            · exact .inr (Nat.le_trans OUT5.out.1.size q)⟩
          clear SY D6' O6 S6 D5 OUT5
          by_cases he6 : e6 = 0
          · subst he6
            have HR := hide (E3.out (by trivial) (by trivial))
            clear E1 E2 E3
            go_wp2
            go_ret
            rw [HR.out]
            exact ⟨rfl, FIN.out⟩
          · have he6b : (e6 != 0) = true := by simp [he6]
            have HR := hide (E2.out (by trivial) he6)
            clear E1 E2 E3
            go_wp2
            go_ret
            rw [HR.out]
            exact ⟨rfl, FIN.out⟩
        · have he5b : (e5 != 0) = true := by simp [he5]
          have HR := hide (E1.out he5)
          have FIN : Hid (DStep p F w w5 st5) := hide ⟨F5, D5.out, OUT5.out.1, OUT5.out.2⟩
          clear E1 E2 E3
          go_wp2
          go_ret
          rw [HR.out]
          exact ⟨rfl, FIN.out⟩
      · have heb : (e4 != 0) = true := by simp [he4]
        have hW : Orp.wr1 st base s = (6, st4) := by rw [wr1_no (by rw [HNH.out]; exact hcut) (by rw [H4.out]; exact he4), H4.out]
        have HR := hide (HW1.out.trans hW)
        have FIN : Hid (DStep p F w w4 st4) := hide ⟨F4, D4.out, OUT4.out.1, fun g hg => (OUT4.out.2 g hg).imp_right fun q => Nat.le_trans B3.out.size q⟩
        clear hW
        go_wp2
        go_ret
        rw [HR.out]
        exact ⟨rfl, FIN.out⟩
    · have hW : Orp.wr1 st base s = Orp.wr2 st s := wr1_all (by rw [HNH.out]; exact hcut)
      have HW := hide (HW1.out.trans hW)
      obtain ⟨st4, hst4⟩ : ∃ x, st = x := ⟨_, rfl⟩
      obtain ⟨w4, hw4⟩ : ∃ x, w3 = x := ⟨_, rfl⟩
      obtain ⟨F4, hF4⟩ : ∃ x, F = x := ⟨_, rfl⟩
      have hBc : Big t (u + 1) st4 := by rw [← hst4]; exact hB.mono (Nat.le_refl _) (by omega)
      have D4 : Hid (Dk p F4 w4 st4) := by rw [← hst4, ← hw4, ← hF4]; exact D3
      have OUT4 : Hid (Out F w w4 ∧ ∀ g, F4 g → F g ∨ w3.heap.size ≤ g) := hide ⟨by rw [← hw4]; exact Out.of_below B3.out, fun g hg => .inl (by rw [hF4]; exact hg)⟩
      have IB4 : Hid (Is .u8 w4 (.slice xa xn xk) (Orp.sec s)) := hide (by rw [← hw4]; exact OB3.out.is)
      have NF4 : Hid (∀ g, (Value.slice xa xn xk).ownBlock = some g → ¬ F4 g) := hide fun g hg hF => by
        have q := VB.out g hg
        rw [← hF4] at hF
        have := FLT.out g hF
        omega
      rw [hst4] at HW
      rw [hw4]
      clear hW D3 hst4 hw4 hF4
      have WR := hide (writeR_any p F4 w4 st4 3 (.slice xa xn xk) (Orp.sec s) D4.out IB4.out (fun _ => NF4.out) (by omega) (by have := hBc.1.2.1; omega) hBc.2 (by have := hBc.1.2.2; omega))
      have hB5 := big_write hBc 3 (Orp.sec s)
      have hcn : cnt (Orp.sec s).length ≤ 782 := by unfold cnt; omega
      have E1 := hide (fun h => wr2_e1 (st := st4) (s := s) h)
      have E2 := hide (fun h q => wr2_e2 (st := st4) (s := s) h q)
      have E3 := hide (fun h q => wr2_e3 (st := st4) (s := s) h q)
      obtain ⟨⟨e5, st5⟩, h5⟩ : ∃ x, Dm.write st4 3 (Orp.sec s) = x := ⟨_, rfl⟩
      rw [h5] at WR hB5 E1 E2 E3
      simp only at WR hB5 E1 E2 E3
      rw [← HW.out] at E1 E2 E3
      clear h5 IB4 NF4
      go_wp2_with fail
      refine WR.out.mono ?_
      rintro E w5 ⟨rfl, F5, D5', O5, S5⟩
      have D5 := hide D5'
      have OUT5 : Hid (Out F w w5 ∧ ∀ g, F5 g → F g ∨ w.heap.size ≤ g) := hide ⟨OUT4.out.1.trans O5 (fun g hg => (OUT4.out.2 g hg).imp_right fun q => Nat.le_trans B3.out.size q), fun g hg => by
        rcases S5 g hg with q | q
        · exact (OUT4.out.2 g q).imp_right fun q => Nat.le_trans B3.out.size q
        · exact .inr (Nat.le_trans OUT4.out.1.size q)⟩
      clear WR D5' O5 S5 D4 OUT4
      by_cases he5 : e5 = 0
      · subst he5
        have SY := hide (syncR_any p F5 w5 st5 D5.out (fun f => by have := hB5.1.1 f; omega) (by have := hB5.1.2.1; omega) hB5.2 (by have := hB5.1.2.2; omega))
        obtain ⟨⟨e6, st6⟩, h6⟩ : ∃ x, Dm.sync st5 = x := ⟨_, rfl⟩
        rw [h6] at SY E2 E3
        simp only at SY E2 E3
        clear h6
        go_wp2_with fail
        refine SY.out.mono ?_
        rintro E w6 ⟨rfl, F6, D6', O6, S6⟩
        have FIN : Hid (DStep p F w w6 st6) := hide ⟨F6, D6', OUT5.out.1.trans O6 OUT5.out.2, fun g hg => by
          rcases S6 g hg with q | q
          · exact OUT5.out.2 g q
          · exact .inr (Nat.le_trans OUT5.out.1.size q)⟩
        clear SY D6' O6 S6 D5 OUT5
        by_cases he6 : e6 = 0
        · subst he6
          have HR := hide (E3.out (by trivial) (by trivial))
          clear E1 E2 E3
          go_wp2
          go_ret
          rw [HR.out]
          exact ⟨rfl, FIN.out⟩
        · have he6b : (e6 != 0) = true := by simp [he6]
          have HR := hide (E2.out (by trivial) he6)
          clear E1 E2 E3
          go_wp2
          go_ret
          rw [HR.out]
          exact ⟨rfl, FIN.out⟩
      · have he5b : (e5 != 0) = true := by simp [he5]
        have HR := hide (E1.out he5)
        have FIN : Hid (DStep p F w w5 st5) := hide ⟨F5, D5.out, OUT5.out.1, OUT5.out.2⟩
        clear E1 E2 E3
        go_wp2
        go_ret
        rw [HR.out]
        exact ⟨rfl, FIN.out⟩
  · have hcb : (ck != 0) = true := by simp [hc0]
    have HR := hide (HRR.out.symm.trans (Orp.wrS_chk HON.out (by rw [HCK.out]; exact hc0)))
    rw [HCK.out] at HR
    have FIN : Hid (DStep p F w w2 st) := hide (DStep.pre B2.out (DStep.same D2.out (Below.refl _ _)))
    subst hvb
    clear ownb
    go_wp2
    go_ret
    rw [HR.out]
    exact ⟨rfl, FIN.out⟩

end Go.Proofs.YtkpnkknolobioaaGreat
