/- DiskScript's own functions: done, same. -/
import Derived.Test.YteklbnonikccaaaDh
import Derived.Test.YteklbnonikccaaaAo
import Derived.Test.YteklbnonikccaaaApart
namespace Go.Proofs.Yteklbnonikccaaa
open Go.RowKit Go.Shelf
set_option linter.unusedVariables false

set_option maxHeartbeats 2000000 in
theorem writeR_any (p : Nat) (F : Nat → Prop) (w : World) (st : Dm.Ds) (file : Int) (vb : Value) (bs : List Int) (h : Dk p F w st) (hb : Is .u8 w vb bs) (hbF : 0 < bs.length → ∀ b, vb.ownBlock = some b → ¬ F b) (hLm : bs.length ≤ 1000)
    (hw : st.wait.length ≤ 900000) (hl : st.left ≤ 9223372036854775807) (hc : st.count ≤ 900000) :
    Calls Try.prog 44 #[.pointer (some ⟨p, 0, none⟩), .int .i64 file, vb] w fun E w' => E = .returned (.int .i64 (Dm.write st file bs).1) ∧ DStep p F w w' (Dm.write st file bs).2 := by
  have HA := hide (askedR_any p F w st h)
  have HK := hide h
  unfold Dm.write
  cases hon : st.on
  · rw [if_pos rfl]
    have hk := ask_off hon
    clear hon h
    go_enter Try.func44, Try.ntmps44
    go_wp2_with fail
    refine HA.out.mono ?_
    rintro E w1 ⟨rfl, rfl⟩
    rw [hk]
    go_wp2
    go_ret
    exact ⟨rfl, DStep.same HK.out (Below.refl _ _)⟩
  · rw [if_neg (by simp)]
    have hk := ask_on hon
    cases hin : Dm.inF file
    · rw [if_pos rfl]
      have hcase := not_inF hin
      clear hon h hin
      rcases hcase with hc1 | ⟨hc1, hc2⟩
      all_goals
        go_enter Try.func44, Try.ntmps44
        go_wp2_with fail
        refine HA.out.mono ?_
        rintro E w1 ⟨rfl, rfl⟩
        rw [hk]
        go_wp2
        go_ret
        exact ⟨rfl, DStep.same HK.out (Below.refl _ _)⟩
    · rw [if_neg (by simp)]
      obtain ⟨f, hf, rfl⟩ := inF_nat hin
      rw [Int.toNat_natCast]
      exact wrtR_any p F w st f hf vb bs h hon hb hbF hLm hw hl hc

/-- What a call of the script does. -/
def actR (st : Dm.Ds) (a : Aw) (bs : List Int) : Int × Dm.Ds :=
  if pk a.k 7 = 0 then Dm.write st a.f bs else if pk a.k 7 = 1 then Dm.cutD st a.f a.n else if pk a.k 7 = 2 then Dm.sync st else if pk a.k 7 = 3 then Dm.fuse st a.n else if pk a.k 7 = 4 then Dm.pull st else if pk a.k 7 = 5 then Dm.start st a.n a.t else Dm.safe st

theorem big_act {k : Nat} {st : Dm.Ds} (h : Big (400 * k) (8 * k) st) (a : Aw) (hn : I64 a.n) (hbs : a.bs.length ≤ 400) : Big (400 * (k + 1)) (8 * (k + 1)) (actR st a a.bs).2 := by
  have hc7 := cnt_small hbs
  unfold actR
  split
  · exact (big_write h a.f a.bs).mono (by omega) (by omega)
  · split
    · exact (big_cut h a.f a.n).mono (by omega) (by omega)
    · split
      · exact (big_sync h).mono (by omega) (by omega)
      · split
        · exact (big_fuse h a.n hn.2).mono (by omega) (by omega)
        · split
          · exact (big_pull h).mono (by omega) (by omega)
          · split
            · exact (big_start h a.n a.t).mono (by omega) (by omega)
            · exact (big_safe h).mono (by omega) (by omega)

set_option maxHeartbeats 4000000 in
theorem done_any (p : Nat) (F : Nat → Prop) (a : Aw) (vb : Value) (w : World) (st : Dm.Ds) (h : Pk p F w st) (hi : I64 a.k ∧ I64 a.f ∧ I64 a.n ∧ I64 a.t) (hform : ∃ x n c, a.v = .slice x n c) (hb : Is .u8 w vb a.bs) (hbF : 0 < a.bs.length → ∀ b, vb.ownBlock = some b → ¬ F b) (hbs : a.bs.length ≤ 400) (hs : Big 100000000 800000 st) :
    Calls Try.prog 23 #[.pointer (some ⟨p, 0, none⟩), .agg #[.int .i64 a.k, .int .i64 a.f, .int .i64 a.n, .int .i64 a.t, a.v], vb] w fun E w' => E = .returned (.int .i64 (actR st a a.bs).1) ∧ PStep p F w w' (actR st a a.bs).2 := by
  obtain ⟨x, xn, xc, hav⟩ := hform
  obtain ⟨w1, hw1, sz1, bel1, hB⟩ := blk_step w #[.int .i64 a.k, .int .i64 a.f, .int .i64 a.n, .int .i64 a.t, a.v] 43
  have c0 : w1.cell? ⟨w.heap.size, 0, none⟩ = some (.int .i64 a.k) := blk_cell hB 0 rfl
  have c1 : w1.cell? ⟨w.heap.size, 1, none⟩ = some (.int .i64 a.f) := blk_cell hB 1 rfl
  have c2 : w1.cell? ⟨w.heap.size, 2, none⟩ = some (.int .i64 a.n) := blk_cell hB 2 rfl
  have c3 : w1.cell? ⟨w.heap.size, 3, none⟩ = some (.int .i64 a.t) := blk_cell hB 3 rfl
  have h1 := h.below bel1
  have hc7 := cnt_small hbs
  have z1 : ∀ f, (st.sure f).length + Dm.bulk st.wait ≤ 140737488355000 := fun f => by have := hs.1.1 f; omega
  have z2 := hs.1.2.1
  have z3 := hs.1.2.2
  have PA := hide (pickx_any a.k 7 w1 (by omega) (by omega) hi.1)
  obtain ⟨q0, q1⟩ := pk_lt a.k 7 (by omega)
  have W := hide (write_any p F w1 st a.f vb a.bs h1 (hb.below bel1) hbF (by omega) (by omega) hs.2 (by omega))
  have C := hide (cut_any p F w1 st a.f a.n h1 z1 (by omega) hs.2 (by omega))
  have S := hide (sync_any p F w1 st h1 z1 (by omega) hs.2 (by omega))
  have FU := hide (fuse_any p F w1 st a.n h1)
  have PU := hide (pull_any p F w1 st h1)
  have ST := hide (start_any p F w1 st a.n a.t h1 hi.2.2.2.2 z1 (by omega))
  have SA := hide (safe_any p F w1 st h1)
  have HQ : ∀ q, q = pk a.k 7 → actR st a a.bs = if q = 0 then Dm.write st a.f a.bs else if q = 1 then Dm.cutD st a.f a.n else if q = 2 then Dm.sync st else if q = 3 then Dm.fuse st a.n else if q = 4 then Dm.pull st else if q = 5 then Dm.start st a.n a.t else Dm.safe st := fun q hq => by rw [hq]; rfl
  rw [HQ _ rfl]
  rw [hav] at hw1 ⊢
  clear hB h h1 hav HQ hb hbF hs z1 z2 z3 hi
  generalize pk a.k 7 = q at PA q0 q1 ⊢
  rcases (show q = 0 ∨ q = 1 ∨ q = 2 ∨ q = 3 ∨ q = 4 ∨ q = 5 ∨ q = 6 by omega) with rfl | rfl | rfl | rfl | rfl | rfl | rfl
  all_goals simp only [if_true, if_false, Int.reduceEq]
  all_goals
    go_enter Try.func23, Try.ntmps23
    go_wp2_with fail
    refine PA.out.mono ?_
    rintro E w' ⟨rfl, rfl⟩
    go_wp2_with fail
    first
      | refine W.out.mono ?_
      | refine C.out.mono ?_
      | refine S.out.mono ?_
      | refine FU.out.mono ?_
      | refine PU.out.mono ?_
      | refine ST.out.mono ?_
      | refine SA.out.mono ?_
    rintro E w2 ⟨rfl, J⟩
    have J := hide (PStep.pre bel1 J)
    go_wp2
    go_ret
    exact ⟨rfl, J.out⟩

theorem rdB_len {st : Dm.Ds} {t u : Nat} (hs : Big t u st) (file : Int) : (rdB st file).length ≤ t := by
  unfold rdB
  split
  · simp
  · split
    · simp
    · have h1 := Dm.hold_len st.wait (st.sure file.toNat) file.toNat
      have h2 := hs.1.1 file.toNat
      omega

theorem duB_len {st : Dm.Ds} {t u : Nat} (hs : Big t u st) (file : Int) : (duB st file).length ≤ t := by
  unfold duB
  split
  · simp
  · have h2 := hs.1.1 file.toNat
    omega

set_option maxRecDepth 100000 in
set_option maxHeartbeats 4000000 in
theorem sameD_any (p q : Nat) (F G : Nat → Prop) (w : World) (st : Dm.Ds) (h : Pk p F w st) (k : Dk q G w st) (hs : Big 100000000 800000 st) :
    Calls Try.prog 27 #[.pointer (some ⟨p, 0, none⟩), .pointer (some ⟨q, 0, none⟩)] w fun E w' => E = .returned (.bool true) ∧ Below w.heap.size w w' := by
  have H := hide h
  have K := hide k
  have z1 : ∀ f, (st.sure f).length + Dm.bulk st.wait ≤ 140737488355000 := fun f => by have := hs.1.1 f; omega
  have Z1 := hide z1
  have z2 : st.wait.length ≤ 1000000 := by have := hs.1.2.1; omega
  have HS := hide hs
  clear h k z1 hs
  go_enter Try.func27, Try.ntmps27
  go_wp2_with (first
    | (go_at_call 15; refine (on_any p F w st H.out).mono ?_; rintro E w' ⟨rfl, rfl⟩)
    | (go_at_call 51; refine (onR_any q G w st K.out).mono ?_; rintro E w' ⟨rfl, rfl⟩)
    | (go_at_call 18; refine (pend_any p F w st H.out).mono ?_; rintro E w' ⟨rfl, rfl⟩)
    | (go_at_call 52; refine (pendR_any q G w st K.out).mono ?_; rintro E w' ⟨rfl, rfl⟩)
    | (go_at_call 16; refine (steps_any p F w st H.out).mono ?_; rintro E w' ⟨rfl, rfl⟩)
    | (go_at_call 53; refine (stepsR_any q G w st K.out).mono ?_; rintro E w' ⟨rfl, rfl⟩))
  go_loopw [5, 6, 7, 8, 9] (fun iv _ _ _ _ wr => ∃ j : Nat, j ≤ 6 ∧ iv = .int .i64 ((j : Int) - 1) ∧ Below w.heap.size w wr) (fun iv _ _ _ _ _ => 6 - (intOf iv + 1).toNat)
  case atStart => exact ⟨0, by omega, rfl, Below.refl _ _⟩
  case round =>
    obtain ⟨j, hj, rfl, bel⟩ := hrel
    have sz := bel.size
    by_cases hlt : j < 6
    · obtain ⟨f, hf⟩ : ∃ f : Int, f = (j : Int) - 1 := ⟨_, rfl⟩
      rw [← hf]
      have hle : f ≤ 4 := by omega
      have hwp : IntKind.i64.wrap (f + 1) = f + 1 := wrap64s _ (by omega) (by omega)
      have H1 := hide (H.out.below bel)
      have K1 := hide (K.out.below bel)
      have HF := hide hf
      have hrl := rdB_len HS.out f
      have hdl := duB_len HS.out f
      clear hf
      go_wp2_with fail
      refine (read_any p F wr st f H1.out Z1.out z2).mono ?_
      rintro E w2 ⟨v2, rfl, own2, b2⟩
      have HO2 := hide own2
      clear own2
      go_wp2_with fail
      refine (readR_any q G w2 st f (K1.out.below b2) Z1.out z2).mono ?_
      rintro E w3 ⟨v3, rfl, own3, b3⟩
      have HO3 := hide own3
      have b13 : Below wr.heap.size wr w3 := b2.trans (b3.mono b2.size)
      clear own3
      go_wp2_with fail
      refine (same_yes _ _ (rdB st f) (rdB st f) w3 (HO2.out.is.below b3) HO3.out.is (by omega) rfl).mono ?_
      rintro E w4 ⟨rfl, b4⟩
      have b14 : Below wr.heap.size wr w4 := b13.trans (b4.mono b13.size)
      go_wp2_with fail
      refine (durable_any p F w4 st f (H1.out.below b14) Z1.out).mono ?_
      rintro E w5 ⟨v5, rfl, own5, b5⟩
      have HO5 := hide own5
      have b15 : Below wr.heap.size wr w5 := b14.trans (b5.mono b14.size)
      clear own5
      go_wp2_with fail
      refine (durR_any q G w5 st f (K1.out.below b15) Z1.out).mono ?_
      rintro E w6 ⟨v6, rfl, own6, b6⟩
      have HO6 := hide own6
      have b16 : Below wr.heap.size wr w6 := b15.trans (b6.mono b15.size)
      clear own6
      go_wp2_with fail
      refine (same_yes _ _ (duB st f) (duB st f) w6 (HO5.out.is.below b6) HO6.out.is (by omega) rfl).mono ?_
      rintro E w7 ⟨rfl, b7⟩
      have b17 : Below w.heap.size w w7 := bel.trans ((b16.trans (b7.mono b16.size)).mono sz)
      go_wp2
      go_roundw
      case rel => exact ⟨j + 1, by omega, by have := HF.out; congr 1; omega, b17⟩
      case measure => simp [intOf]; have := HF.out; omega
    · obtain rfl : j = 6 := by omega
      go_wp2
      go_ret
      exact ⟨rfl, bel⟩

end Go.Proofs.Yteklbnonikccaaa
