/- The contracts of starts' checkPlace, At, Trimmed, fork, Fork, and of the copy that slices.Clone makes of starts. -/
import Derived.Test.YtklpbcdkgjoheaaSc
namespace Go.Proofs.Ytklpbcdkgjoheaa
open Go.RowKit
set_option linter.unusedVariables false

theorem Try.info58 : (Try.prog.info? 58).map (fun i => (i.zero, i.size, i.bytes)) = some (some (.agg #[.int .i64 0, .int .i64 0]), 2, 16) := by kernel_rfl

theorem ownS_rebase {base base' : Nat} {w : World} {v : Value} {l : List Sm.S} (h : OwnS base w v l) (hb : base' ≤ base) : OwnS base' w v l := by
  refine ⟨h.1, ?_⟩
  rcases h.2 with h | ⟨g, cap, cur, hv, h1, r⟩
  · exact .inl h
  · exact .inr ⟨g, cap, cur, hv, by omega, r⟩

theorem ownS_below {base : Nat} {w w' : World} {v : Value} {l : List Sm.S} (h : OwnS base w v l) (hb : Below w.heap.size w w') : OwnS base w' v l := h.agree fun b hb' => hb.block b (h.lt b hb').2

/-- 'append(out, xs...)' of starts. -/
theorem wpList_append_sts {w : World} {ops : Array Oper} {rest : List Oper} {o : Oper} {a : Act} {Q : Exit → Act → World → Prop} (hgd : o.guard = none) (s x : Operand)
    (ho : o.op = .call { callee := .builtin .append, args := #[s, x], argTypes := #[22, 22] })
    (base : Nat) (v : Value) (l : List Sm.S) (hs : a.eval s = v) (hown : OwnS base w v l) (vx : Value) (m : List Sm.S) (hx : a.eval x = vx) (his : RowS w vx m)
    (hlen : (l.length + m.length) * 16 ≤ 140737488355328) (hbase : base ≤ w.heap.size)
    (h : ∀ v' w', OwnS base w' v' (l ++ m) → Below base w w' → w.grownBy w' v.ownBlock → wpList Try.prog ops Q rest (a.put o.dst v') w') : wpList Try.prog ops Q (o :: rest) a w :=
  wpList_append_rows stc 2 16 stc_len (by decide) (by decide) (.agg #[.int .i64 0, .int .i64 0]) rfl hgd s x 22 ho 58 base Try.underlying22 Try.info58 v l hs hown vx m hx his (stc_one m) hlen hbase
    fun v' w' h1 h2 => h v' w' h1 ((Below.refl _ _).grown h2 hbase fun k hk => (OwnG.lt hown k hk).1) h2

theorem sts_step (w : World) (cs : Array Value) (n : Nat) (l : List Sm.S) (hn : l.length = n) (h : cs.toList = gcells stc l) (hm : n ≤ maxLen) :
    ∃ W, w.alloc (.cells cs 58) = W ∧ W.heap.size = w.heap.size + 1 ∧ Below w.heap.size w W ∧ OwnS w.heap.size W (.slice (some ⟨w.heap.size, 0, none⟩) n n) l := rows_step stc 2 stc_len 58 w cs n l hn h hm

theorem Try.eqnilS (w : World) (a : Option Addr) (n c : Nat) : (binOp .eql 22 (.slice a n c) (.slice none 0 0)).run Try.prog w = .ok (.bool a.isNone) w := Lib.run_eql_slice_nil w 22 58 a n c 0 0 Try.underlying22

set_option maxHeartbeats 1000000 in
theorem sclone_any (v : Value) (l : List Sm.S) (w : World) (h : RowS w v l) (hl : l.length * 16 ≤ 140737488355328) :
    Calls Try.prog 38 #[v] w fun E w' => ∃ v', E = .returned v' ∧ OwnS w.heap.size w' v' l ∧ Below w.heap.size w w' := by
  rcases h with ⟨hv, hz⟩ | ⟨ad, cap, hv, h1, h2, hc⟩
  · subst hz hv
    have hq := Try.eqnilS w none 0 0
    go_enter Try.func38, Try.ntmps38
    go_wp2
    go_ret
    exact ⟨_, rfl, OwnG.nil _ _ _ _ _, Below.refl _ _⟩
  · obtain ⟨w1, hw1, sz1, bel1, own1⟩ := sts_step w #[] 0 [] rfl rfl (by simp)
    have hq := Try.eqnilS w (some ad) l.length cap
    simp only [Option.isNone_some] at hq
    have h1' : RowS w1 (.slice (some ad) l.length cap) l := (RowG.below (f := stc) (.inr ⟨ad, cap, rfl, h1, h2, hc⟩) bel1)
    subst hv
    clear hc
    go_enter Try.func38, Try.ntmps38
    go_wp2_with (at_builtin; refine wpList_append_sts rfl (.tmp 5) (.tmp 6) rfl w.heap.size _ [] rfl own1 _ l rfl h1' (by simp; omega) (by omega) ?_)
    intro v2 w2 own2 bel2 _
    go_wp2
    go_ret
    exact ⟨_, rfl, by simpa using own2, bel1.trans bel2⟩

set_option maxHeartbeats 400000 in
theorem place_any (v : Value) (l : List Sm.S) (en n : Int) (w : World) (h : RowS w v l) (hl : l.length ≤ 140737488355328) :
    Calls Try.prog 32 #[v, .int .i64 en, .int .i64 n] w fun E w' => E = .returned (.int .i64 (atE l en n)) ∧ Below w.heap.size w w' := by
  have X := hide (scheck_any v l en w h hl)
  clear h hl
  by_cases h0 : Sm.chk l en = 0
  · rw [h0] at X
    by_cases hn : n < 0 ∨ en < n
    · obtain ⟨e1, e2⟩ := atE_two h0 hn
      rw [e1]
      clear e1 e2 h0
      go_enter Try.func32, Try.ntmps32
      go_wp2_with fail
      refine X.out.mono ?_
      rintro E w2 ⟨rfl, bel2⟩
      by_cases h1 : n < 0
      · clear hn
        go_wp2
        go_ret
        exact ⟨rfl, bel2⟩
      · have h2 : en < n := by omega
        clear hn
        go_wp2
        go_ret
        exact ⟨rfl, bel2⟩
    · obtain ⟨e1, e2⟩ := atE_ok h0 hn
      rw [e1]
      have h1 : ¬ n < 0 := by omega
      have h2 : ¬ en < n := by omega
      clear e1 e2 h0 hn
      go_enter Try.func32, Try.ntmps32
      go_wp2_with fail
      refine X.out.mono ?_
      rintro E w2 ⟨rfl, bel2⟩
      go_wp2
      go_ret
      exact ⟨rfl, bel2⟩
  · obtain ⟨e0, e1, e2⟩ := atE_five (n := n) h0
    rw [e1]
    rw [e0] at X
    clear e0 e1 e2 h0
    go_enter Try.func32, Try.ntmps32
    go_wp2_with fail
    refine X.out.mono ?_
    rintro E w2 ⟨rfl, bel2⟩
    go_wp2
    go_ret
    exact ⟨rfl, bel2⟩

theorem atE_zero {l : List Sm.S} {en n : Int} (h : atE l en n = 0) : Sm.Ok l en ∧ 0 ≤ n ∧ n ≤ en := by
  by_cases h0 : Sm.chk l en = 0
  · by_cases hn : n < 0 ∨ en < n
    · rw [(atE_two h0 hn).1] at h
      simp at h
    · exact ⟨Sm.chk_zero.1 h0, by omega, by omega⟩
  · rw [(atE_five h0).2.1] at h
    simp at h

set_option maxHeartbeats 400000 in
theorem at_any (v : Value) (l : List Sm.S) (en n : Int) (w : World) (h : RowS w v l) (hl : l.length ≤ 140737488355328) :
    Calls Try.prog 9 #[v, .int .i64 en, .int .i64 n] w fun E w' => E = .returned (.tuple #[.int .i64 (atV l en n), .int .i64 (atE l en n)]) ∧ Below w.heap.size w w' := by
  have X := hide (place_any v l en n w h hl)
  by_cases h0 : atE l en n = 0
  · have hv : atV l en n = Sm.lst (Sm.beg n l) := by unfold atV; rw [if_pos h0]; exact Sm.epo_lst n l
    have hu := (atE_zero h0).1.2.2.2.1
    have Y : Hid (∀ w2, Below w.heap.size w w2 → _) := hide fun w2 b2 => begun_any v l en 0 0 n w2 (h.below b2) hl hu
    have hlb : (Sm.beg n l).length ≤ 140737488355328 := Nat.le_trans (Sm.beg_le n l) hl
    rw [h0] at X ⊢
    rw [hv]
    clear hv h0 hu h hl
    generalize Sm.beg n l = u at *
    go_enter Try.func9, Try.ntmps9
    go_wp2_with fail
    refine X.out.mono ?_
    rintro E w2 ⟨rfl, bel2⟩
    go_wp2_with fail
    refine (Y.out _ bel2).mono ?_
    rintro E w3 ⟨v3, rfl, r3, bel3⟩
    go_wp2_with fail
    refine (lastE_any v3 u w3 r3 hlb).mono ?_
    rintro E w4 ⟨rfl, rfl⟩
    go_wp2
    go_ret2
    exact ⟨rfl, bel2.trans (bel3.mono bel2.size)⟩
  · have hv : atV l en n = 0 := by unfold atV; rw [if_neg h0]
    rw [hv]
    generalize atE l en n = g at *
    have hg : (g != 0) = true := by simpa using h0
    clear hv h0 h hl
    go_enter Try.func9, Try.ntmps9
    go_wp2_with fail
    refine X.out.mono ?_
    rintro E w2 ⟨rfl, bel2⟩
    go_wp2
    go_ret2
    exact ⟨rfl, bel2⟩

/-- What Trimmed comes to. -/
def trm (l : List Sm.S) (en n : Int) : List Sm.S := if atE l en n = 0 then Sm.beg n l else []

set_option maxHeartbeats 400000 in
theorem trim_any (v : Value) (l : List Sm.S) (en n : Int) (w : World) (h : RowS w v l) (hl : l.length * 16 ≤ 140737488355328) :
    Calls Try.prog 12 #[v, .int .i64 en, .int .i64 n] w fun E w' => ∃ v', E = .returned (.tuple #[v', .int .i64 (atE l en n)]) ∧ OwnS w.heap.size w' v' (trm l en n) ∧ Below w.heap.size w w' := by
  have X := hide (place_any v l en n w h (by omega))
  by_cases h0 : atE l en n = 0
  · have hv : trm l en n = Sm.beg n l := by unfold trm; rw [if_pos h0]
    have hu := (atE_zero h0).1.2.2.2.1
    have Y : Hid (∀ w2, Below w.heap.size w w2 → _) := hide fun w2 b2 => begun_any v l en 0 0 n w2 (h.below b2) (by omega) hu
    have hlb : (Sm.beg n l).length * 16 ≤ 140737488355328 := by have := Sm.beg_le n l; omega
    rw [h0] at X ⊢
    rw [hv]
    clear hv h0 hu h hl
    generalize Sm.beg n l = u at *
    have HL := hide hlb
    clear hlb
    go_enter Try.func12, Try.ntmps12
    go_wp2_with fail
    refine X.out.mono ?_
    rintro E w2 ⟨rfl, bel2⟩
    go_wp2_with fail
    refine (Y.out _ bel2).mono ?_
    rintro E w3 ⟨v3, rfl, r3, bel3⟩
    go_wp2_with fail
    refine (sclone_any v3 u w3 r3 HL.out).mono ?_
    rintro E w4 ⟨v4, rfl, own4, bel4⟩
    have s2 := bel2.size
    have s3 := bel3.size
    go_wp2
    go_ret2
    exact ⟨_, rfl, ownS_rebase own4 (by omega), (bel2.trans (bel3.mono s2)).trans (bel4.mono (by omega))⟩
  · have hv : trm l en n = [] := by unfold trm; rw [if_neg h0]
    rw [hv]
    generalize atE l en n = g at *
    have hg : (g != 0) = true := by simpa using h0
    clear hv h0 h hl
    go_enter Try.func12, Try.ntmps12
    go_wp2_with fail
    refine X.out.mono ?_
    rintro E w2 ⟨rfl, bel2⟩
    go_wp2
    go_ret2
    exact ⟨_, rfl, OwnG.nil _ _ _ _ _, bel2⟩

set_option maxHeartbeats 4000000 in
theorem fork_any (va vb : Value) (a b : List Sm.S) (ae be : Int) (w : World) (ha : RowS w va a) (hb : RowS w vb b) (hla : a.length ≤ 140737488355328) (hlb : b.length ≤ 140737488355328) (oa : Sm.Ok a ae) (ob : Sm.Ok b be) :
    Calls Try.prog 36 #[va, .int .i64 ae, vb, .int .i64 be] w fun E w' => ∃ n, E = .returned (.int .i64 n) ∧ Sm.Fk a ae b be n ∧ ∃ m, w' = w.drewN m := by
  have oa0 := oa.1
  have oa1 := oa.2.1
  have ob0 := ob.1
  have ob1 := ob.2.1
  have OA := hide oa
  have OB := hide ob
  clear oa ob
  by_cases hz : a.length = 0 ∨ b.length = 0
  · obtain ⟨aa, ca, rfl, _, _⟩ := ha.shape
    obtain ⟨ab, cb, rfl, _, _⟩ := hb.shape
    have hfk := (Sm.bk_start a b ae be).none OA.out OB.out hz
    obtain ⟨n, hn⟩ : ∃ n, (if be < ae then be else ae) = n := ⟨_, rfl⟩
    have hmn : min ae be = n := by rw [← hn]; split <;> omega
    rw [hmn] at hfk
    have HFK := hide hfk
    generalize hp : a.length = p at *
    generalize hq : b.length = q at *
    clear ha hb hfk hmn hp hq
    go_enter Try.func36, Try.ntmps36
    go_wp2
    go_step3
    go_wp2
    go_step3
    go_wp2
    go_loopw [1, 3, 9, 10] (fun av bv iv jv wr => av = .int .i64 ae ∧ bv = .int .i64 be ∧ iv = .int .i64 ((p : Int) - 1) ∧ jv = .int .i64 ((q : Int) - 1) ∧ wr = w) (fun _ _ _ _ _ => 0)
    case atStart => exact ⟨rfl, rfl, rfl, rfl, rfl⟩
    case round =>
      obtain ⟨rfl, rfl, rfl, rfl, rfl⟩ := hrel
      by_cases hp0 : 0 ≤ (p : Int) - 1
      · have hq0 : ¬ 0 ≤ (q : Int) - 1 := by omega
        clear hz
        go_wp2
        try rw [Exit.noGoto_ret]
        go_ret
        exact ⟨n, rfl, HFK.out, 0, rfl⟩
      · clear hz
        go_wp2
        try rw [Exit.noGoto_ret]
        go_ret
        exact ⟨n, rfl, HFK.out, 0, rfl⟩
  obtain ⟨ba, fa, ca, rfl, _, _, hBa, hca⟩ := rowS_full ha (by omega)
  obtain ⟨bb, fb, cb, rfl, _, _, hBb, hcb⟩ := rowS_full hb (by omega)
  have HA := hide hca
  have HB := hide hcb
  have ST := hide (Sm.bk_start a b ae be)
  generalize hp : a.length = pa at *
  generalize hq : b.length = qb at *
  have HP := hide hp
  have HQ := hide hq
  clear ha hb hca hcb hp hq
  go_enter Try.func36, Try.ntmps36
  go_wp2
  go_step3
  go_wp2
  go_step3
  go_wp2
  go_loopw [1, 3, 9, 10] (fun av bv iv jv wr => ∃ (p q : Nat) (x y : Int) (m : Nat), av = .int .i64 x ∧ bv = .int .i64 y ∧ iv = .int .i64 ((p : Int) - 1) ∧ jv = .int .i64 ((q : Int) - 1) ∧ Hid (Sm.Bk a ae b be p x q y) ∧ wr = w.drewN m) (fun _ _ iv jv _ => (intOf iv + 1).toNat + (intOf jv + 1).toNat)
  case atStart => exact ⟨pa, qb, ae, be, 0, rfl, rfl, rfl, rfl, ST, rfl⟩
  case round =>
    obtain ⟨p, q, x, y, m, rfl, rfl, hiv, hjv, BK, rfl⟩ := hrel
    obtain ⟨n, hn⟩ : ∃ n, (if y < x then y else x) = n := ⟨_, rfl⟩
    have hmn : min x y = n := by rw [← hn]; split <;> omega
    have hnx : n ≤ x := by omega
    have hny : n ≤ y := by omega
    have HM := hide hmn
    clear hmn
    rcases Nat.eq_zero_or_pos p with hp | hp
    · have hfk := BK.out.none OA.out OB.out (.inl hp)
      rw [HM.out] at hfk
      have HFK := hide hfk
      subst hp
      subst hiv hjv
      clear hfk
      go_wp2
      try rw [Exit.noGoto_ret]
      go_ret
      exact ⟨n, rfl, HFK.out, m, rfl⟩
    obtain ⟨i, rfl⟩ : ∃ i, p = i + 1 := ⟨p - 1, by omega⟩
    rw [show (((i + 1 : Nat) : Int)) - 1 = (i : Int) by omega] at hiv
    subst hiv
    rcases Nat.eq_zero_or_pos q with hq | hq
    · have hfk := BK.out.none OA.out OB.out (.inr hq)
      rw [HM.out] at hfk
      have HFK := hide hfk
      subst hq
      subst hjv
      have hi0 : (0 : Int) ≤ i := by omega
      clear hfk
      go_wp2
      try rw [Exit.noGoto_ret]
      go_ret
      exact ⟨n, rfl, HFK.out, m, rfl⟩
    obtain ⟨j, rfl⟩ : ∃ j, q = j + 1 := ⟨q - 1, by omega⟩
    rw [show (((j + 1 : Nat) : Int)) - 1 = (j : Int) by omega] at hjv
    subst hjv
    have hpa := BK.out.pa
    have hqb := BK.out.qb
    rw [HP.out] at hpa
    rw [HQ.out] at hqb
    obtain ⟨s, hs⟩ := at_of (l := a) (k := i) (by have := HP.out; omega)
    obtain ⟨t, ht⟩ := at_of (l := b) (k := j) (by have := HQ.out; omega)
    obtain ⟨s0, s1⟩ := HA.out i s hs
    obtain ⟨t0, t1⟩ := HB.out j t ht
    have bs := Sm.up_at a ae 0 0 OA.out.2.2.2.1 i s hs
    have bt := Sm.up_at b be 0 0 OB.out.2.2.2.1 j t ht
    obtain ⟨_, _, bs1, bs2⟩ := bs
    obtain ⟨_, _, bt1, bt2⟩ := bt
    have HS := hide hs
    have HTT := hide ht
    have hi0 : (0 : Int) ≤ i := by omega
    have hj0 : (0 : Int) ≤ j := by omega
    have hip : (i : Int) < pa := by omega
    have hjq : (j : Int) < qb := by omega
    clear hs ht hp hq
    by_cases q1 : t.1 < s.1
    · have BK2 := hide (BK.out.drop OA.out OB.out HS.out HTT.out (.inl q1))
      clear BK HM HS HTT
      go_wp2
      go_quiet (fail)
      go_wp2
      go_roundw
      case rel => exact ⟨i, j + 1, s.2 - 1, y, _, rfl, rfl, rfl, by rw [show (((j + 1 : Nat) : Int)) - 1 = (j : Int) by omega], BK2, rfl⟩
      case measure => simp [intOf]
    by_cases q2 : n < s.2
    · have BK2 := hide (BK.out.drop OA.out OB.out HS.out HTT.out (.inr (by have := HM.out; omega)))
      clear BK HM HS HTT
      go_wp2
      go_quiet (fail)
      go_wp2
      go_roundw
      case rel => exact ⟨i, j + 1, s.2 - 1, y, _, rfl, rfl, rfl, by rw [show (((j + 1 : Nat) : Int)) - 1 = (j : Int) by omega], BK2, rfl⟩
      case measure => simp [intOf]
    by_cases q3 : s.1 < t.1
    · have BK2 := hide (BK.out.swap.drop OB.out OA.out HTT.out HS.out (.inl q3)).swap
      clear BK HM HS HTT
      go_wp2
      go_quiet (fail)
      go_wp2
      go_quiet (fail)
      go_wp2
      go_roundw
      case rel => exact ⟨i + 1, j, x, t.2 - 1, _, rfl, rfl, by rw [show (((i + 1 : Nat) : Int)) - 1 = (i : Int) by omega], rfl, BK2, rfl⟩
      case measure => simp [intOf]
    by_cases q4 : n < t.2
    · have BK2 := hide (BK.out.swap.drop OB.out OA.out HTT.out HS.out (.inr (by have := HM.out; omega))).swap
      clear BK HM HS HTT
      go_wp2
      go_quiet (fail)
      go_wp2
      go_quiet (fail)
      go_wp2
      go_roundw
      case rel => exact ⟨i + 1, j, x, t.2 - 1, _, rfl, rfl, by rw [show (((i + 1 : Nat) : Int)) - 1 = (i : Int) by omega], rfl, BK2, rfl⟩
      case measure => simp [intOf]
    have hfk := BK.out.found OA.out OB.out HS.out HTT.out q1 q3 (by have := HM.out; omega) (by have := HM.out; omega)
    rw [HM.out] at hfk
    have HFK := hide hfk
    clear hfk BK HS HTT
    go_wp2
    go_quiet (fail)
    go_wp2
    go_quiet (fail)
    go_wp2
    try rw [Exit.noGoto_ret]
    go_ret
    exact ⟨n, rfl, HFK.out, _, rfl⟩

end Go.Proofs.Ytklpbcdkgjoheaa
