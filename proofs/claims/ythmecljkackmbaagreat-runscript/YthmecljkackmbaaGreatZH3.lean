/- Texts of one layer, one behind the other. -/
import Derived.Test.YthmecljkackmbaaGreatZ12
import Derived.Test.YthmecljkackmbaaGreatZA
import Derived.WalkMore
import Derived.Test.YthmecljkackmbaaGreatZH2
/- frame.Scan. -/
namespace Go.Proofs.YthmecljkackmbaaGreat
open Go.RowKit
set_option linter.unusedVariables false

/-- The lists of a row. -/
def lsts (r : List Bw) : List (List Int) := r.map Bw.l

theorem lsts_len (r : List Bw) : (lsts r).length = r.length := List.length_map ..
theorem lsts_app (r : List Bw) (a : Bw) : lsts (r ++ [a]) = lsts r ++ [a.l] := by simp [lsts]

/-- Gathered so far. -/
def Got (bs : List Int) (r : List Bw) : Prop := (∀ a ∈ r, a.l.length ≤ 131072) ∧ Fm.cat (lsts r) <+: bs

theorem Got.nil (bs : List Int) : Got bs [] := ⟨by simp, by simp [lsts, Fm.cat]⟩

theorem Got.next {bs z : List Int} {r : List Bw} {n : Nat} {v : Value} (h : Got bs r) (hr : Fm.Rd (bs.drop (Fm.cat (lsts r)).length) z n 0) : Got bs (r ++ [⟨v, z⟩]) ∧ (Fm.cat (lsts (r ++ [⟨v, z⟩]))).length = (Fm.cat (lsts r)).length + n ∧ 1 ≤ n ∧ z.length ≤ 131072 := by
  rcases hr with ⟨_, h1, h2, h3⟩ | ⟨h0, _⟩
  · obtain ⟨g1, g2⟩ := Fm.sc_next h.2 h3
    have e : lsts (r ++ [⟨v, z⟩]) = lsts r ++ [z] := lsts_app r ⟨v, z⟩
    rw [e]
    have hz := Vm.sz_pos z.length
    refine ⟨⟨fun a ha => ?_, by rw [e]; exact g1⟩, by omega, by omega, h1⟩
    rcases List.mem_append.1 ha with ha | ha
    · exact h.1 a ha
    · simp at ha
      subst ha
      exact h1
  · cases h0

theorem Got.le {bs : List Int} {r : List Bw} (h : Got bs r) : (Fm.cat (lsts r)).length ≤ bs.length ∧ r.length ≤ (Fm.cat (lsts r)).length := by
  refine ⟨h.2.length_le, ?_⟩
  have := Fm.cat_len (lsts r)
  rw [lsts_len] at this
  exact this

theorem Got.done {bs z : List Int} {r : List Bw} {n : Nat} (h : Got bs r) (hr : Fm.Rd (bs.drop (Fm.cat (lsts r)).length) z n 5) : Fm.Sc bs (lsts r) := by
  rcases hr with ⟨h0, _⟩ | ⟨_, _, _, h3⟩
  · cases h0
  · refine ⟨fun q hq => ?_, h.2, h3⟩
    obtain ⟨a, ha, rfl⟩ := List.mem_map.1 hq
    exact h.1 a ha

end Go.Proofs.YthmecljkackmbaaGreat

/- The document's Append and Read. -/
namespace Go.Proofs.YthmecljkackmbaaGreat
open Go.RowKit
set_option linter.unusedVariables false

theorem fputR_any (vb : Value) (bs : List Int) (x : Int) (w : World) (hb : Is .u8 w vb bs) (hl : bs.length ≤ 140737488352900) (h0 : 0 ≤ x) (h1 : x < 9223372036854775808) :
    Calls Tryz.prog 194 #[vb, .int .i64 x] w fun e w' => ∃ v, e = .returned v ∧ Own .u8 5 w.heap.size w' v (bs ++ Vm.enc x.toNat) ∧ Below w.heap.size w w' := by
  go_enter Tryz.func194, Tryz.ntmps194
  go_wp2_with fail
  refine (appR_any _ bs x _ hb (by omega) (by omega) (by omega)).mono ?_
  rintro E w1 ⟨v1, rfl, own1, bel1⟩
  go_wp2
  go_ret
  exact ⟨_, rfl, own1, bel1⟩

set_option maxHeartbeats 1000000 in
theorem fappR_any (vb vr : Value) (bs r : List Int) (w : World) (hb : Is .u8 w vb bs) (hr : Is .u8 w vr r) (hl : bs.length ≤ 140737488351232) (hl' : r.length ≤ 140737488351232) :
    Calls Tryz.prog 158 #[vb, vr] w fun E w' => ∃ v', E = .returned (.tuple #[v', .int .i64 (ape r)]) ∧ Own .u8 5 w.heap.size w' v' (apd bs r) ∧ Below w.heap.size w w' := by
  obtain ⟨ro, rc, hv, hcap, hcm⟩ := hr.shape
  subst hv
  have HR := hide hr
  clear hr
  by_cases hlong : r.length ≤ 131072
  · have e1 : ape r = 0 := if_pos hlong
    have e2 : apd bs r = bs ++ Vm.enc r.length ++ r := by unfold apd Fm.frm; rw [if_pos hlong, List.append_assoc]
    rw [e1, e2]
    have hn : ¬ (131072 : Int) < (r.length : Int) := by omega
    have hz : (Vm.enc r.length).length ≤ 3 := Fm.sz3 hlong
    have C1 := hide (fputR_any vb bs (r.length : Int) w hb (by omega) (by omega) (by omega))
    rw [Int.toNat_natCast] at C1
    clear e1 e2 hb
    go_enter Tryz.func158, Tryz.ntmps158
    go_wp2_with fail
    refine C1.out.mono ?_
    rintro E w1 ⟨v1, rfl, own1, bel1⟩
    clear C1
    have hr1 := HR.out.below bel1
    have sum : (bs ++ Vm.enc r.length).length + r.length ≤ 150000000000000 := by rw [List.length_append]; omega
    have s1 := bel1.size
    generalize hq : bs ++ Vm.enc r.length = q at *
    have HQ := hide hq
    clear hq
    go_wp2_with (at_builtin; refine wpList_append_is rfl (.tmp 14) (.tmp 15) 112 rfl .u8 5 w.heap.size 1 Tryz.underlying112 Tryz.info5 (by decide) _ q rfl own1 _ r rfl hr1 (by simp; omega) s1 ?_)
    intro v2 w2 own2 bel2 _
    have b3 := bel1.trans bel2
    rw [← HQ.out] at own2
    clear own1 hr1 bel1 bel2
    go_wp2
    go_ret2
    exact ⟨_, rfl, own2, b3⟩
  · have e1 : ape r = 3 := if_neg hlong
    have e2 : apd bs r = [] := if_neg hlong
    rw [e1, e2]
    have hn : (131072 : Int) < (r.length : Int) := by omega
    go_enter Tryz.func158, Tryz.ntmps158
    go_wp2
    go_ret2
    exact ⟨_, rfl, Own.nil _ _ _ _, Below.refl _ _⟩

/-- A count, and then its bytes, by the reader. -/
theorem rdr_rd {bs zs : List Int} {u a1 a2 : Nat} {b1 b2 : Bool} (h1 : SStep bs 131072 0 false u a1 b1) (h2 : BStep bs u a1 b1 zs a2 b2) :
    (b2 = false ∧ Fm.Rd bs zs a2 0) ∨ (b2 = true ∧ Fm.Rd bs [] 0 5) := by
  rcases h1 with ⟨h, _⟩ | ⟨_, rfl, rfl, rfl, hno⟩ | ⟨_, rfl, hu, hp, rfl⟩
  · cases h
  · rcases h2 with ⟨_, rfl, rfl, rfl⟩ | ⟨h, _⟩
    · exact .inr ⟨rfl, rd_bad (by simpa using hno)⟩
    · cases h
  · rw [List.drop_zero] at hp
    rw [Nat.zero_add] at h2
    rcases h2 with ⟨h, rfl, rfl, rfl⟩ | ⟨_, h, rfl, rfl, rfl⟩
    · have h : bs.length - Vm.sz u < u := by simpa using h
      exact .inr ⟨rfl, rd_short hp h⟩
    · exact .inl ⟨rfl, rd_good hp hu h⟩

set_option maxHeartbeats 2000000 in
theorem freadR_any (vb : Value) (bs : List Int) (w : World) (hb : Is .u8 w vb bs) (hl : bs.length ≤ 150000000000000) :
    Calls Tryz.prog 132 #[vb] w fun E w' => ∃ (v : Value) (r : List Int) (n : Nat) (e : Int), E = .returned (.tuple #[v, .int .i64 n, .int .i64 e]) ∧ Own .u8 5 w.heap.size w' v r ∧ Below w.heap.size w w' ∧ Hid (Fm.Rd bs r n e) := by
  obtain ⟨ao, cap, rfl, _, _⟩ := hb.shape
  obtain ⟨W1, hW1, sz1, bel1, blk1⟩ := blk_step w #[.slice ao bs.length cap, .int .i64 0, .bool false] 204
  have r1 : Rdr w W1 w.heap.size (.slice ao bs.length cap) bs 0 false := ⟨hb, by omega, bel1, blk1, by omega⟩
  have C1 := hide (rsmall_any w W1 w.heap.size _ bs 0 false 131072 r1 hl (by omega))
  clear blk1 hb r1 bel1
  go_enter Tryz.func132, Tryz.ntmps132
  go_wp2_with fail
  refine C1.out.mono ?_
  rintro E w2 ⟨u, a1, b1, rfl, r2, g2, hs⟩
  have hu : u ≤ 131072 := by
    rcases hs with ⟨h, _⟩ | ⟨_, _, h, _⟩ | ⟨_, _, h, _⟩
    · cases h
    · omega
    · exact h
  have C2 := hide (rbytes_any w w2 w.heap.size _ bs a1 b1 u r2 hl (by omega))
  have HS := hide hs
  have S2 := r2.2.2.1.size
  clear C1 hs r2 g2
  go_wp2_with fail
  refine C2.out.mono ?_
  rintro E w3 ⟨v3, zs, a2, b2, rfl, own3, r3, _, hb3⟩
  have B3 := hide r3.2.2.1
  have O3 := hide (own3.rebase S2)
  have k1 := r3.cell1
  have k2 := r3.cell2
  have RD := hide (rdr_rd HS.out hb3)
  clear C2 HS own3 r3 hb3
  cases b2
  · have R : Hid (Fm.Rd bs zs a2 0) := hide (by rcases RD.out with h | h; exact h.2; cases h.1)
    clear RD
    go_wp2_with fail
    go_quiet (fail)
    go_wp2
    go_ret3
    exact ⟨_, zs, a2, 0, rfl, O3.out.drewN _, below_drewN B3.out _, R⟩
  · have R : Hid (Fm.Rd bs [] 0 5) := hide (by rcases RD.out with h | h; cases h.1; exact h.2)
    clear RD
    go_wp2
    go_ret3
    exact ⟨_, [], 0, 5, rfl, Own.nil _ _ _ _, B3.out, R⟩

end Go.Proofs.YthmecljkackmbaaGreat
