/- The document's Append and Read. -/
import Derived.Test.YtimmohpnlieefaaFd
import Derived.Test.YtimmohpnlieefaaA3
namespace Go.Proofs.Ytimmohpnlieefaa
open Go.RowKit
set_option linter.unusedVariables false

/-- A count, and then its bytes, by the reader. -/
theorem rdr_rd {bs zs : List Int} {u a1 a2 : Nat} {b1 b2 : Bool} (h1 : SStep bs 131072 0 false u a1 b1) (h2 : BStep bs u a1 b1 zs a2 b2) :
    (b2 = false ∧ Fm.Rd bs zs a2 0) ∨ (b2 = true ∧ Fm.Rd bs [] 0 5) := by
  rcases h1 with ⟨h, _⟩ | ⟨_, rfl, rfl, rfl, hno⟩ | ⟨_, rfl, hu, hp, rfl⟩
  · cases h
  · rcases h2 with ⟨_, rfl, rfl, rfl⟩ | ⟨h, _⟩
    · exact .inr ⟨rfl, rd_bad (by simpa using hno)⟩
    · cases h
  · rw [List.drop_zero] at hp
    rw [Nat.zero_add] at h2
    rcases h2 with ⟨h, rfl, rfl, rfl⟩ | ⟨_, h, rfl, rfl, rfl⟩
    · have h : bs.length - Vm.sz u < u := by simpa using h
      exact .inr ⟨rfl, rd_short hp h⟩
    · exact .inl ⟨rfl, rd_good hp hu h⟩

set_option maxHeartbeats 2000000 in
theorem freadR_any (vb : Value) (bs : List Int) (w : World) (hb : Is .u8 w vb bs) (hl : bs.length ≤ 150000000000000) :
    Calls Try.prog 56 #[vb] w fun E w' => ∃ (v : Value) (r : List Int) (n : Nat) (e : Int), E = .returned (.tuple #[v, .int .i64 n, .int .i64 e]) ∧ Own .u8 5 w.heap.size w' v r ∧ Below w.heap.size w w' ∧ Hid (Fm.Rd bs r n e) := by
  obtain ⟨ao, cap, rfl, _, _⟩ := hb.shape
  obtain ⟨W1, hW1, sz1, bel1, blk1⟩ := blk_step w #[.slice ao bs.length cap, .int .i64 0, .bool false] 117
  have r1 : Rdr w W1 w.heap.size (.slice ao bs.length cap) bs 0 false := ⟨hb, by omega, bel1, blk1, by omega⟩
  have C1 := hide (rsmall_any w W1 w.heap.size _ bs 0 false 131072 r1 hl (by omega))
  clear blk1 hb r1 bel1
  go_enter Try.func56, Try.ntmps56
  go_wp2_with fail
  refine C1.out.mono ?_
  rintro E w2 ⟨u, a1, b1, rfl, r2, g2, hs⟩
  have hu : u ≤ 131072 := by
    rcases hs with ⟨h, _⟩ | ⟨_, _, h, _⟩ | ⟨_, _, h, _⟩
    · cases h
    · omega
    · exact h
  have C2 := hide (rbytes_any w w2 w.heap.size _ bs a1 b1 u r2 hl (by omega))
  have HS := hide hs
  have S2 := r2.2.2.1.size
  clear C1 hs r2 g2
  go_wp2_with fail
  refine C2.out.mono ?_
  rintro E w3 ⟨v3, zs, a2, b2, rfl, own3, r3, _, hb3⟩
  have B3 := hide r3.2.2.1
  have O3 := hide (own3.rebase S2)
  have k1 := r3.cell1
  have k2 := r3.cell2
  have RD := hide (rdr_rd HS.out hb3)
  clear C2 HS own3 r3 hb3
  cases b2
  · have R : Hid (Fm.Rd bs zs a2 0) := hide (by rcases RD.out with h | h; exact h.2; cases h.1)
    clear RD
    go_wp2_with fail
    go_quiet (fail)
    go_wp2
    go_ret3
    exact ⟨_, zs, a2, 0, rfl, O3.out.drewN _, below_drewN B3.out _, R⟩
  · have R : Hid (Fm.Rd bs [] 0 5) := hide (by rcases RD.out with h | h; cases h.1; exact h.2)
    clear RD
    go_wp2
    go_ret3
    exact ⟨_, [], 0, 5, rfl, Own.nil _ _ _ _, B3.out, R⟩

end Go.Proofs.Ytimmohpnlieefaa
