/- Package script (layer 25): the reader of words: word. -/
import Derived.Test.YtgcdibglkbfjdaaGreatDoorSxb
import Derived.Test.YtgcdibglkbfjdaaGreatDoorCut
namespace Go.Proofs.YtgcdibglkbfjdaaGreatDoor
open Go.RowKit
set_option linter.unusedVariables false
set_option maxRecDepth 100000

/-- A reader in block g: words are left (they lie where w0 has them), bad or not. -/
structure Wrd (w0 w : World) (g : Nat) (ws : List ByteArray) (bad : Bool) (a : Option Addr) (c : Nat) : Prop where
  le : w0.heap.size ≤ g
  bel : Below w0.heap.size w0 w
  blk : w.heap[g]? = some (.cells #[.slice a ws.length c, .bool bad] 55 (0, 0))
  len : ws.length ≤ c ∧ c ≤ 65536
  adr : a = none → ws = []
  wrd : ∀ p, a = some p → ∃ pb po, p = ⟨pb, po, none⟩ ∧ ∀ j s, ws[j]? = some s → w0.cell? ⟨pb, po + j, none⟩ = some (.string s)
def Rd (w0 w : World) (g : Nat) (ws : List ByteArray) (bad : Bool) : Prop := ∃ a c, Wrd w0 w g ws bad a c

theorem Wrd.lt {w0 w : World} {g c : Nat} {ws : List ByteArray} {bad : Bool} {a : Option Addr} (h : Wrd w0 w g ws bad a c) : g < w.heap.size := blk_lt h.blk
theorem Rd.lt {w0 w : World} {g : Nat} {ws : List ByteArray} {bad : Bool} (h : Rd w0 w g ws bad) : g < w.heap.size := by
  obtain ⟨a, c, h⟩ := h
  exact h.lt
theorem Rd.below {w0 w w' : World} {g : Nat} {ws : List ByteArray} {bad : Bool} (h : Rd w0 w g ws bad) (hb : Below w.heap.size w w') : Rd w0 w' g ws bad := by
  obtain ⟨a, c, h⟩ := h
  exact ⟨a, c, h.le, h.bel.trans (hb.mono h.bel.size), (hb.block g h.lt).trans h.blk, h.len, h.adr, h.wrd⟩
theorem Rd.bel {w0 w : World} {g : Nat} {ws : List ByteArray} {bad : Bool} (h : Rd w0 w g ws bad) : Below w0.heap.size w0 w := by
  obtain ⟨a, c, h⟩ := h
  exact h.bel
theorem Rd.put {w0 w : World} {g : Nat} {ws : List ByteArray} {bad : Bool} (h : Rd w0 w g ws bad) (b : Bool) : Rd w0 (w.setCell ⟨g, 1, none⟩ (.bool b)) g ws b := by
  obtain ⟨a, c, h⟩ := h
  exact ⟨a, c, h.le, h.bel.setCell (p := ⟨g, 1, none⟩) h.le _, by rw [set_cells h.blk]; rfl, h.len, h.adr, h.wrd⟩

theorem rd_tail {w0 w : World} {g c pb po x : Nat} {s : ByteArray} {r : List ByteArray} {bad : Bool} (h : Wrd w0 w g (s :: r) bad (some ⟨pb, po, none⟩) c) (hx : x = po + 1 ∨ c = 1) :
    Rd w0 (w.setCell ⟨g, 0, none⟩ (.slice (some ⟨pb, x, none⟩) r.length (c - 1))) g r bad := by
  have hl := h.len
  simp only [List.length_cons] at hl
  obtain ⟨pb', po', e, hw⟩ := h.wrd _ rfl
  simp only [Addr.mk.injEq, and_true] at e
  obtain ⟨rfl, rfl⟩ := e
  refine ⟨_, _, h.le, h.bel.setCell (p := ⟨g, 0, none⟩) h.le _, by rw [set_cells h.blk]; rfl, ⟨by omega, by omega⟩, fun e => by simp at e, ?_⟩
  intro p e
  obtain rfl := Option.some.inj e
  refine ⟨pb, x, rfl, fun j u hj => ?_⟩
  rcases hx with rfl | hc
  · have := hw (j + 1) u hj
    rw [← this, show po + 1 + j = po + (j + 1) by omega]
  · exfalso
    have := (List.getElem?_eq_some_iff.1 hj).1
    omega

set_option maxHeartbeats 400000 in
theorem rword_any (w0 w : World) (g : Nat) (ws : List ByteArray) (bad : Bool) (h : Rd w0 w g ws bad) :
    Calls Tryz.prog 53 #[.pointer (some ⟨g, 0, none⟩)] w fun E w' => E = .returned (.string (ws.headD ⟨#[]⟩)) ∧ Rd w0 w' g ws.tail (bad || ws.isEmpty) ∧ w.grownBy w' (some g) := by
  have HR := hide h
  obtain ⟨a, c, h⟩ := h
  have f0 := blk_froz h.blk 0
  have f1 := blk_froz h.blk 1
  have hlt := h.lt
  cases ws with
  | nil =>
    have c0 : w.cell? ⟨g, 0, none⟩ = some (.slice a 0 c) := blk_cell h.blk 0 rfl
    have c1 : w.cell? ⟨g, 1, none⟩ = some (.bool bad) := blk_cell h.blk 1 rfl
    clear h
    go_enter Tryz.func53, Tryz.ntmps53
    go_wp2
    go_ret
    refine ⟨rfl, ?_, grown_setCell _ _ _⟩
    have := HR.out.put true
    simpa using this
  | cons s r =>
    have c0 : w.cell? ⟨g, 0, none⟩ = some (.slice a (r.length + 1 : Nat) c) := blk_cell h.blk 0 rfl
    have c1 : w.cell? ⟨g, 1, none⟩ = some (.bool bad) := blk_cell h.blk 1 rfl
    have hlen : r.length + 1 ≤ c ∧ c ≤ 65536 := h.len
    obtain ⟨p, rfl⟩ : ∃ p, a = some p := by
      cases a with
      | none => exact absurd (h.adr rfl) (by simp)
      | some p => exact ⟨p, rfl⟩
    obtain ⟨pb, po, rfl, hw⟩ := h.wrd p rfl
    have hs : w0.cell? ⟨pb, po, none⟩ = some (.string s) := hw 0 s rfl
    have hpl : pb < w0.heap.size := by
      rcases Nat.lt_or_ge pb w0.heap.size with h' | h'
      · exact h'
      · simp [World.cell?, Array.getElem?_eq_none h'] at hs
    have k0 : w.cell? ⟨pb, po, none⟩ = some (.string s) := (h.bel.cell (p := ⟨pb, po, none⟩) hpl).trans hs
    have P := hide fun x hx => rd_tail (x := x) h hx
    obtain ⟨n, hn⟩ : ∃ n, r.length = n := ⟨_, rfl⟩
    rw [hn] at c0 hlen P
    clear h hw hs hn
    have hz : (((n + 1 : Nat) : Int) == 0) = false := by simp; omega
    go_enter Tryz.func53, Tryz.ntmps53
    go_wp2
    case inl =>
      obtain rfl : c = 1 := by assumption
      go_ret
      exact ⟨rfl, by have := P.out po (.inr rfl); simpa using this, grown_setCell _ _ _⟩
    case inr =>
      go_ret
      exact ⟨rfl, by have := P.out (po + 1) (.inl rfl); simpa using this, grown_setCell _ _ _⟩

end Go.Proofs.YtgcdibglkbfjdaaGreatDoor
