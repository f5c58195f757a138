/- Texts of one layer, one behind the other. -/
import Derived.Test.YtajlhdmnincehaaGreatDoorH1
import Derived.Test.YtajlhdmnincehaaGreatDoorProg
import Derived.Shelf.RegionOpen
import Derived.SizedLaws
import Derived.Lib.SmallJoins
import Derived.Deep.Slices
import Derived.Test.YtajlhdmnincehaaGreatDoorH19
/- The program's restart (layer 21): steps in their order, up to the first one that refuses. -/
namespace Go.Proofs.YtajlhdmnincehaaGreatDoor
open Go.RowKit
set_option linter.unusedVariables false

/-- Steps, one behind the other, up to the first one that refuses; their row lies in block B. -/
def Run (B : Nat) (Q : Int → World → Prop) : List Value → World → Prop
  | [], w => Q 0 w
  | v :: vs, w => ∃ f first cap, v = .func (.func f) first cap ∧ (∀ args w, (callFunc f args).run Tryz.prog w = .ok (.enter f args) w) ∧ Calls Tryz.prog f (first ++ cap) w fun E w' => ∃ e, E = .returned (.int .i64 e) ∧ w'.heap[B]? = w.heap[B]? ∧ ((e ≠ 0 ∧ Q e w') ∨ (e = 0 ∧ Run B Q vs w'))

theorem Run.cons {B : Nat} {Q : Int → World → Prop} {f : FuncId} {first cap xs : Array Value} {vs : List Value} {w : World} (eg : ∀ args w, (callFunc f args).run Tryz.prog w = .ok (.enter f args) w) (ha : first ++ cap = xs) (hc : Calls Tryz.prog f xs w fun E w' => ∃ e, E = .returned (.int .i64 e) ∧ w'.heap[B]? = w.heap[B]? ∧ ((e ≠ 0 ∧ Q e w') ∨ (e = 0 ∧ Run B Q vs w'))) : Run B Q (.func (.func f) first cap :: vs) w :=
  ⟨f, first, cap, rfl, eg, by rw [ha]; exact hc⟩

set_option maxHeartbeats 1000000 in
theorem inorder_any (B n : Nat) (fs : List Value) (w : World) (Q : Int → World → Prop) (hn : fs.length = n) (hl : n ≤ 100) (hB : w.heap[B]? = some (.cells fs.toArray 172 (0, 0))) (h : Run B Q fs w) :
    Calls Tryz.prog 67 #[.slice (some ⟨B, 0, none⟩) n n] w fun E w' => ∃ e, E = .returned (.int .i64 e) ∧ Q e w' := by
  have H := hide (And.intro hB h)
  have HN := hide hn
  clear hB h hn
  go_enter Tryz.func67, Tryz.ntmps67
  go_wp2
  go_loopw [8] (fun iv wr => ∃ (k : Nat), iv = .int .i64 k ∧ k ≤ n ∧ Hid (wr.heap[B]? = some (.cells fs.toArray 172 (0, 0)) ∧ Run B Q (fs.drop k) wr)) (fun iv _ => n - (intOf iv).toNat)
  case atStart => exact ⟨0, rfl, Nat.zero_le _, hide (by rw [List.drop_zero]; exact H.out)⟩
  case round =>
    obtain ⟨k, rfl, hk, HH⟩ := hrel
    by_cases hlt : k < n
    · obtain ⟨hb, hr⟩ := HH.out
      have hkl : k < fs.length := by rw [HN.out]; exact hlt
      rw [List.drop_eq_getElem_cons hkl] at hr
      obtain ⟨f, first, cap, hv, eg, hc⟩ := hr
      have cell : wr.cell? ⟨B, k, none⟩ = some (.func (.func f) first cap) := blk_cell hb k (by simp [List.getElem?_eq_getElem hkl, hv])
      have HC := hide hc
      have HB := hide hb
      have hlt' : (k : Int) < n := by omega
      clear hc hb hv HH
      go_wp2_with fail
      refine HC.out.mono ?_
      rintro E w' ⟨e, rfl, hb', hd⟩
      rcases hd with ⟨he, hq⟩ | ⟨rfl, hq⟩
      · have HQ := hide hq
        clear hq hb' HC
        have he' : (e == 0) = false := by simpa using he
        go_wp2
        go_ret
        exact ⟨e, rfl, HQ.out⟩
      · have HQ := hide (And.intro (hb'.trans HB.out) hq)
        clear hq hb' HC
        go_wp2
        go_roundw
        case rel => exact ⟨k + 1, by simp, by omega, HQ⟩
        case measure => simp [intOf]; omega
    · obtain rfl : k = n := by omega
      have hr := HH.out.2
      rw [List.drop_eq_nil_of_le (by rw [HN.out]; exact Nat.le_refl _)] at hr
      have HR : Hid (Q 0 wr) := hide hr
      clear hr HH
      have hlt' : ¬ (k : Int) < k := by omega
      go_wp2
      go_ret
      exact ⟨0, rfl, HR.out⟩

end Go.Proofs.YtajlhdmnincehaaGreatDoor

/- What a number, bytes, a row of an argument come in as. No program. -/
namespace Go.Proofs.YtajlhdmnincehaaGreatDoor
open Go.RowKit Go.ChangeShapes Go.WideShapes Go.Deep
set_option linter.unusedVariables false


section
variable {H : Type} {enc : TypeId × Value → H} {P : Program} {w : World} {base : Nat} {spare : Nat → Bool} {held : Bool}

/-- Bytes in a cell. -/
theorem open_byts {t e : TypeId} {fuel : Nat} {v : Value} {x : DataW H × List MemPlace} (ht : P.underlying t = some (.slice e)) (he : P.underlying e = some (.int .u8)) (h1 : P.cellsOf e = 1)
    (h : DataW.trod enc P w base spare held fuel t [v] = some x) : ∃ zs : List Int, Is .u8 w v zs := by
  rcases open_ints ht he h1 h with ⟨hcs, hx⟩ | ⟨a, l, c, zs, hcs, hb, hl, hm, hz, hx, hcell, hwz⟩
  · simp at hcs
    subst hcs
    exact ⟨[], Is.nil _ _⟩
  · simp at hcs
    subst hcs
    have hzl : l ≤ zs.length := by rw [hz]; split <;> omega
    have hlen : (zs.take l).length = l := by rw [List.length_take]; omega
    refine ⟨zs.take l, fun z hz => hwz z (List.mem_of_mem_take hz), .inr ⟨a, c, by rw [hlen], by omega, hm, fun j hj => ?_⟩⟩
    rw [hlen] at hj
    rw [hcell j (by omega)]
    simp [List.getD, hj]

theorem gcells_inv {α : Type} {f : α → List Value} {k : Nat} (hk : ∀ a, (f a).length = k) (h0 : 0 < k) : ∀ (l : List α) (j : Nat) (u : Value), (gcells f l)[j]? = some u → ∃ i a m, l[i]? = some a ∧ j = i * k + m ∧ (f a)[m]? = some u
  | [], j, u, h => by simp [gcells] at h
  | a :: r, j, u, h => by
    rw [gcells] at h
    by_cases hj : j < k
    · rw [List.getElem?_append_left (by rw [hk]; exact hj)] at h
      exact ⟨0, a, j, rfl, by omega, h⟩
    · rw [List.getElem?_append_right (by rw [hk]; omega), hk] at h
      obtain ⟨i, b, m, h1, h2, h3⟩ := gcells_inv hk h0 r (j - k) u h
      exact ⟨i + 1, b, m, by simpa using h1, by rw [Nat.add_mul]; omega, h3⟩


end

end Go.Proofs.YtajlhdmnincehaaGreatDoor
