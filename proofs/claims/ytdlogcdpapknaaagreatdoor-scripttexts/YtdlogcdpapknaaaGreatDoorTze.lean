/- The document's one: a word of an act (layer 25). -/
import Derived.Test.YtdlogcdpapknaaaGreatDoorTzd
import Derived.Test.YtdlogcdpapknaaaGreatDoorWs
import Derived.Test.YtdlogcdpapknaaaGreatDoorSxs
namespace Go.Proofs.YtdlogcdpapknaaaGreatDoor
open Go.RowKit
set_option linter.unusedVariables false
set_option maxRecDepth 100000

/-- A number of at most M, or none. -/
def ONum (w : List UInt8) (M : Nat) (n : Int) (ok : Bool) : Prop := (0 ≤ n ∧ n ≤ 999999999) ∧ ((ok = true ∧ n ≤ M ∧ Sct.dg n.toNat = w) ∨ (ok = false ∧ ∀ m : Nat, m ≤ M → Sct.dg m ≠ w))
theorem onum_of {w : List UInt8} {n : Int} {ok : Bool} (h : Sct.NRes w n ok) (hn : 0 ≤ n ∧ n ≤ 999999999) : ONum w 999999999 n ok := by
  refine ⟨hn, ?_⟩
  rcases h with ⟨h1, m, h2, rfl, h3⟩ | ⟨h1, h2⟩
  · exact .inl ⟨h1, by omega, h3⟩
  · exact .inr ⟨h1, h2⟩
theorem onum_one {w : List UInt8} {n : Int} {ok : Bool} (h : Sct.NRes w n ok) (hn : 0 ≤ n ∧ n ≤ 999999999) : ONum w 1 n (ok && decide (n ≤ 1)) := by
  refine ⟨hn, ?_⟩
  rcases h with ⟨rfl, m, h2, rfl, h3⟩ | ⟨rfl, h2⟩
  · by_cases h1 : (m : Int) ≤ 1
    · exact .inl ⟨by simp; omega, by omega, h3⟩
    · refine .inr ⟨by simp; omega, fun q hq e => ?_⟩
      have := Sct.dg_inj (by omega) (by omega) (h3.trans e.symm)
      omega
  · exact .inr ⟨rfl, fun q hq => h2 q (by omega)⟩

/-- A key, or none. -/
def OKey (w : List UInt8) (k : ByteArray) (ok : Bool) : Prop := (ok = true ∧ Om.chk false k.data.toList [] = 0 ∧ Wm.wd k.data.toList = w) ∨ (ok = false ∧ ∀ q, Om.chk false q [] = 0 → Wm.wd q ≠ w)

set_option maxHeartbeats 2000000 in
theorem oneR_n (g : Nat) (s : ByteArray) (w : World) (ck cu cn ct : Int) (key : ByteArray) (o : Value) (hs : s.size ≤ 65536) (hg : w.heap[g]? = some (.cells #[.int .i64 ck, .int .i64 cu, .int .i64 cn, .int .i64 ct, .string key, o] 24 (0, 0))) :
    Calls Tryz.prog 76 #[.pointer (some ⟨g, 0, none⟩), .int .u8 110, .string s] w fun E w' => ∃ n ok, E = .returned (.bool ok) ∧ ONum s.data.toList 1 n ok ∧ w'.heap[g]? = some (.cells #[.int .i64 ck, .int .i64 n, .int .i64 cn, .int .i64 ct, .string key, o] 24 (0, 0)) ∧ w.grownBy w' (some g) := by
  have NU := hide (numR_any s w (by omega))
  have Q := sx_of hg
  obtain ⟨c0, c1, c2, c3, c4, c5⟩ := Q
  have f1 := blk_froz hg 1
  have HG := hide hg
  clear hg
  go_enter Tryz.func76, Tryz.ntmps76
  go_wp2_with fail
  refine NU.out.mono ?_
  rintro E w1 ⟨n, ok, rfl, hn, hr, rfl⟩
  have ON := hide (onum_one hr hn)
  have hp := set_cells HG.out 1 (.int .i64 n)
  have hgr := grown_setCell w ⟨g, 1, none⟩ (.int .i64 n)
  have FF := hide (And.intro (show (w.setCell ⟨g, 1, none⟩ (.int .i64 n)).heap[g]? = some (.cells #[.int .i64 ck, .int .i64 n, .int .i64 cn, .int .i64 ct, .string key, o] 24 (0, 0)) from hp) hgr)
  clear hr hp hgr NU
  cases ok
  · go_wp2
    go_ret
    exact ⟨n, false, rfl, by simpa using ON.out, FF.out.1, FF.out.2⟩
  · go_wp2
    go_ret
    exact ⟨n, decide (n ≤ 1), rfl, by simpa using ON.out, FF.out.1, FF.out.2⟩

set_option maxHeartbeats 2000000 in
theorem oneR_a (g : Nat) (s : ByteArray) (w : World) (ck cu cn ct : Int) (key : ByteArray) (o : Value) (hs : s.size ≤ 65536) (hg : w.heap[g]? = some (.cells #[.int .i64 ck, .int .i64 cu, .int .i64 cn, .int .i64 ct, .string key, o] 24 (0, 0))) :
    Calls Tryz.prog 76 #[.pointer (some ⟨g, 0, none⟩), .int .u8 97, .string s] w fun E w' => ∃ n ok, E = .returned (.bool ok) ∧ ONum s.data.toList 999999999 n ok ∧ w'.heap[g]? = some (.cells #[.int .i64 ck, .int .i64 cu, .int .i64 n, .int .i64 ct, .string key, o] 24 (0, 0)) ∧ w.grownBy w' (some g) := by
  have NU := hide (numR_any s w (by omega))
  have Q := sx_of hg
  obtain ⟨c0, c1, c2, c3, c4, c5⟩ := Q
  have f2 := blk_froz hg 2
  have HG := hide hg
  clear hg
  go_enter Tryz.func76, Tryz.ntmps76
  go_wp2_with fail
  refine NU.out.mono ?_
  rintro E w1 ⟨n, ok, rfl, hn, hr, rfl⟩
  have ON := hide (onum_of hr hn)
  have hp := set_cells HG.out 2 (.int .i64 n)
  have hgr := grown_setCell w ⟨g, 2, none⟩ (.int .i64 n)
  have FF := hide (And.intro (show (w.setCell ⟨g, 2, none⟩ (.int .i64 n)).heap[g]? = some (.cells #[.int .i64 ck, .int .i64 cu, .int .i64 n, .int .i64 ct, .string key, o] 24 (0, 0)) from hp) hgr)
  clear hr hp hgr NU
  go_wp2
  go_ret
  exact ⟨n, ok, rfl, ON.out, FF.out.1, FF.out.2⟩

set_option maxHeartbeats 2000000 in
theorem oneR_t (g : Nat) (s : ByteArray) (w : World) (ck cu cn ct : Int) (key : ByteArray) (o : Value) (hs : s.size ≤ 65536) (hg : w.heap[g]? = some (.cells #[.int .i64 ck, .int .i64 cu, .int .i64 cn, .int .i64 ct, .string key, o] 24 (0, 0))) :
    Calls Tryz.prog 76 #[.pointer (some ⟨g, 0, none⟩), .int .u8 116, .string s] w fun E w' => ∃ n ok, E = .returned (.bool ok) ∧ ONum s.data.toList 999999999 n ok ∧ w'.heap[g]? = some (.cells #[.int .i64 ck, .int .i64 cu, .int .i64 cn, .int .i64 n, .string key, o] 24 (0, 0)) ∧ w.grownBy w' (some g) := by
  have NU := hide (numR_any s w (by omega))
  have Q := sx_of hg
  obtain ⟨c0, c1, c2, c3, c4, c5⟩ := Q
  have f3 := blk_froz hg 3
  have HG := hide hg
  clear hg
  go_enter Tryz.func76, Tryz.ntmps76
  go_wp2_with fail
  refine NU.out.mono ?_
  rintro E w1 ⟨n, ok, rfl, hn, hr, rfl⟩
  have ON := hide (onum_of hr hn)
  have hp := set_cells HG.out 3 (.int .i64 n)
  have hgr := grown_setCell w ⟨g, 3, none⟩ (.int .i64 n)
  have FF := hide (And.intro (show (w.setCell ⟨g, 3, none⟩ (.int .i64 n)).heap[g]? = some (.cells #[.int .i64 ck, .int .i64 cu, .int .i64 cn, .int .i64 n, .string key, o] 24 (0, 0)) from hp) hgr)
  clear hr hp hgr NU
  go_wp2
  go_ret
  exact ⟨n, ok, rfl, ON.out, FF.out.1, FF.out.2⟩

set_option maxHeartbeats 2000000 in
theorem oneR_k (g : Nat) (s : ByteArray) (w : World) (ck cu cn ct : Int) (key : ByteArray) (o : Value) (hs : s.size ≤ 65536) (hg : w.heap[g]? = some (.cells #[.int .i64 ck, .int .i64 cu, .int .i64 cn, .int .i64 ct, .string key, o] 24 (0, 0))) :
    Calls Tryz.prog 76 #[.pointer (some ⟨g, 0, none⟩), .int .u8 107, .string s] w fun E w' => ∃ k ok, E = .returned (.bool ok) ∧ OKey s.data.toList k ok ∧ w'.heap[g]? = some (.cells #[.int .i64 ck, .int .i64 cu, .int .i64 cn, .int .i64 ct, .string k, o] 24 (0, 0)) ∧ w.grownBy w' (some g) := by
  have NU := hide (numR_any s w (by omega))
  have HG := hide hg
  clear hg
  go_enter Tryz.func76, Tryz.ntmps76
  go_wp2_with fail
  refine NU.out.mono ?_
  rintro E w1 ⟨n, ok, rfl, hn, hr, rfl⟩
  clear hr hn NU
  go_wp2_with fail
  refine (bytsR_any s w (by omega)).mono ?_
  rintro E w2 ⟨k, e, rfl, hb, b2⟩
  have hg2 := (b2.block g (blk_lt HG.out)).trans HG.out
  have Q := sx_of hg2
  obtain ⟨c0, c1, c2, c3, c4, c5⟩ := Q
  have f4 := blk_froz hg2 4
  have hp := set_cells hg2 4 (.string k)
  obtain ⟨V, hV⟩ : ∃ V, w2.setCell ⟨g, 4, none⟩ (.string k) = V := ⟨_, rfl⟩
  rw [hV] at hp
  have hgr : w.grownBy V (some g) := by
    rw [← hV]
    exact grown_trans (show w.grownBy w2 (some g) from ⟨b2.os, b2.tape, b2.output, b2.size, fun i hi _ => b2.block i hi⟩) (grown_setCell w2 ⟨g, 4, none⟩ (.string k))
  have FF := hide (And.intro (show V.heap[g]? = some (.cells #[.int .i64 ck, .int .i64 cu, .int .i64 cn, .int .i64 ct, .string k, o] 24 (0, 0)) from hp) hgr)
  have hkz : k.size ≤ 65536 ∨ e = 5 := by
    rcases hb with ⟨_, hk⟩ | ⟨he, _⟩
    · refine .inl ?_
      have h1 : k.data.toList.length ≤ (Wm.wd k.data.toList).length := by
        by_cases h0 : k.data.toList = []
        · rw [h0]; simp
        · rw [Wm.wd_full h0]; exact Wm.flat_ge _
      rw [hk, ← Lib.size_eq, ← Lib.size_eq] at h1
      omega
    · exact .inr he
  clear hp hgr hg2 b2
  rcases hb with ⟨rfl, hk⟩ | ⟨rfl, hk0, hno⟩
  · have hkz' : k.size ≤ 65536 := by
      rcases hkz with h | h
      · exact h
      · exact absurd h (by decide)
    obtain ⟨c, hc⟩ : ∃ c, Om.chk false k.data.toList [] = c := ⟨_, rfl⟩
    have HC := hide hc
    have HKW := hide hk
    have CH := hide (checkR_any false k ⟨#[]⟩ V (by omega) (by decide))
    unfold opv at CH
    rw [show (⟨#[]⟩ : ByteArray).data.toList = [] from rfl, hc] at CH
    clear hc hk hkz
    go_wp2_with fail
    refine CH.out.mono ?_
    rintro E w3 ⟨rfl, b3⟩
    have hg3 := (b3.block g (blk_lt FF.out.1)).trans FF.out.1
    have hgr3 : w.grownBy w3 (some g) := grown_trans FF.out.2 ⟨b3.os, b3.tape, b3.output, b3.size, fun i hi _ => b3.block i hi⟩
    clear b3 CH
    cases hq : (c == 0)
    · have hc0 : c ≠ 0 := by simpa using hq
      go_wp2
      go_ret
      refine ⟨k, false, rfl, .inr ⟨rfl, fun q hq2 e => ?_⟩, hg3, hgr3⟩
      have := Wm.wd_inj (e.trans HKW.out.symm)
      rw [this, HC.out] at hq2
      exact hc0 hq2
    · have hc0 : c = 0 := by simpa using hq
      go_wp2
      go_ret
      exact ⟨k, true, rfl, .inl ⟨rfl, by rw [HC.out]; exact hc0, HKW.out⟩, hg3, hgr3⟩
  · clear hkz
    go_wp2
    go_ret
    exact ⟨k, false, rfl, .inr ⟨rfl, fun q _ => hno q⟩, FF.out.1, FF.out.2⟩

end Go.Proofs.YtdlogcdpapknaaaGreatDoor
