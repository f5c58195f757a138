/- The contracts of the document's reader: Small, Bytes. -/
import Derived.Test.YtdfbagnnieoonaaDoorRefone
import Derived.Test.YtdfbagnnieoonaaDoorOpm
import Derived.Test.YtdfbagnnieoonaaDoorCut
import Derived.Test.YtdfbagnnieoonaaDoorBlk
namespace Go.Proofs.YtdfbagnnieoonaaDoor
open Go.RowKit
set_option linter.unusedVariables false

theorem Tryd.elemB : Tryd.prog.underlying 31 = some (.slice (Tryd.prog.elem 31)) := by kernel_rfl
theorem Tryd.sizeE (wx : World) : (sizeOf (Tryd.prog.elem 31)).run Tryd.prog wx = .ok 1 wx := by kernel_rfl

/-- A reader in block g: of the bytes bs (they lie where w0 has them), at a place, bad or not. -/
def Rdr (w0 w : World) (g : Nat) (vb : Value) (bs : List Int) (a : Nat) (bad : Bool) : Prop :=
  Is .u8 w0 vb bs ∧ w0.heap.size ≤ g ∧ Below w0.heap.size w0 w ∧ w.heap[g]? = some (.cells #[vb, .int .i64 a, .bool bad] 63 (0, 0)) ∧ a ≤ bs.length

theorem Rdr.lt {w0 w : World} {g a : Nat} {vb : Value} {bs : List Int} {bad : Bool} (h : Rdr w0 w g vb bs a bad) : g < w.heap.size := by
  rcases Nat.lt_or_ge g w.heap.size with h' | h'
  · exact h'
  · have := h.2.2.2.1
    simp [Array.getElem?_eq_none h'] at this

theorem Rdr.is {w0 w : World} {g a : Nat} {vb : Value} {bs : List Int} {bad : Bool} (h : Rdr w0 w g vb bs a bad) : Is .u8 w vb bs := h.1.below h.2.2.1

theorem Rdr.below {w0 w w' : World} {g a : Nat} {vb : Value} {bs : List Int} {bad : Bool} (h : Rdr w0 w g vb bs a bad) (hb : Below w.heap.size w w') : Rdr w0 w' g vb bs a bad := by
  have hl := h.lt
  have hs := h.2.2.1.size
  exact ⟨h.1, h.2.1, h.2.2.1.trans (hb.mono hs), (hb.block g hl).trans h.2.2.2.1, h.2.2.2.2⟩

theorem Rdr.cell0 {w0 w : World} {g a : Nat} {vb : Value} {bs : List Int} {bad : Bool} (h : Rdr w0 w g vb bs a bad) : w.cell? ⟨g, 0, none⟩ = some vb := by simp [World.cell?, h.2.2.2.1]
theorem Rdr.cell1 {w0 w : World} {g a : Nat} {vb : Value} {bs : List Int} {bad : Bool} (h : Rdr w0 w g vb bs a bad) : w.cell? ⟨g, 1, none⟩ = some (.int .i64 a) := by simp [World.cell?, h.2.2.2.1]
theorem Rdr.cell2 {w0 w : World} {g a : Nat} {vb : Value} {bs : List Int} {bad : Bool} (h : Rdr w0 w g vb bs a bad) : w.cell? ⟨g, 2, none⟩ = some (.bool bad) := by simp [World.cell?, h.2.2.2.1]
theorem Rdr.froz {w0 w : World} {g a : Nat} {vb : Value} {bs : List Int} {bad : Bool} (h : Rdr w0 w g vb bs a bad) (j : Nat) : w.frozen? ⟨g, j, none⟩ = false := by simp [World.frozen?, h.2.2.2.1]

theorem Rdr.put1 {w0 w : World} {g a : Nat} {vb : Value} {bs : List Int} {bad : Bool} (h : Rdr w0 w g vb bs a bad) (a' : Nat) (ha : a' ≤ bs.length) : Rdr w0 (w.setCell ⟨g, 1, none⟩ (.int .i64 a')) g vb bs a' bad :=
  ⟨h.1, h.2.1, h.2.2.1.setCell (p := ⟨g, 1, none⟩) h.2.1 _, by rw [set_cells h.2.2.2.1]; rfl, ha⟩
theorem Rdr.put2 {w0 w : World} {g a : Nat} {vb : Value} {bs : List Int} {bad : Bool} (h : Rdr w0 w g vb bs a bad) (bad' : Bool) : Rdr w0 (w.setCell ⟨g, 2, none⟩ (.bool bad')) g vb bs a bad' :=
  ⟨h.1, h.2.1, h.2.2.1.setCell (p := ⟨g, 2, none⟩) h.2.1 _, by rw [set_cells h.2.2.2.1]; rfl, h.2.2.2.2⟩

/-- What a reader's Small does. -/
def SStep (bs : List Int) (most a : Nat) (bad : Bool) (u a' : Nat) (bad' : Bool) : Prop :=
  (bad = true ∧ bad' = true ∧ u = 0 ∧ a' = a) ∨ (bad = false ∧ bad' = true ∧ u = 0 ∧ a' = a ∧ ∀ x : Nat, x ≤ most → ¬ Vm.enc x <+: bs.drop a) ∨ (bad = false ∧ bad' = false ∧ u ≤ most ∧ Vm.enc u <+: bs.drop a ∧ a' = a + Vm.sz u)

/-- What a reader's Bytes does. -/
def BStep (bs : List Int) (n a : Nat) (bad : Bool) (zs : List Int) (a' : Nat) (bad' : Bool) : Prop :=
  ((bad = true ∨ bs.length - a < n) ∧ bad' = true ∧ zs = [] ∧ a' = a) ∨ (bad = false ∧ n ≤ bs.length - a ∧ bad' = false ∧ zs = (bs.drop a).take n ∧ a' = a + n)

set_option maxHeartbeats 400000 in
theorem rsmall_any (w0 w : World) (g : Nat) (vb : Value) (bs : List Int) (a : Nat) (bad : Bool) (most : Nat) (h : Rdr w0 w g vb bs a bad) (hl : bs.length ≤ 150000000000000) (hm : most < 9223372036854775808) :
    Calls Tryd.prog 36 #[.pointer (some ⟨g, 0, none⟩), .int .i64 most] w fun E w' => ∃ (u a' : Nat) (bad' : Bool), E = .returned (.int .i64 u) ∧ Rdr w0 w' g vb bs a' bad' ∧ w.grownBy w' (some g) ∧ SStep bs most a bad u a' bad' := by
  have c0 := h.cell0
  have c1 := h.cell1
  have c2 := h.cell2
  have ha := h.2.2.2.2
  cases bad
  · obtain ⟨vs, hsl, isl⟩ := h.is.slice_l Tryd.elemB Tryd.sizeE a ha
    obtain ⟨u, i, e, hS⟩ := sres_is (bs.drop a) most
    have hdl : (bs.drop a).length = bs.length - a := by rw [List.length_drop]
    rcases hS with ⟨hR, h1, h2, he⟩ | ⟨hu, hi, he, x, n, f, hR, hcase⟩
    · have hbd := Vm.res_bounds hR
      obtain ⟨un, rfl⟩ : ∃ un : Nat, u = un := ⟨u.toNat, by omega⟩
      obtain ⟨n, rfl⟩ : ∃ n : Nat, i = n := ⟨i.toNat, by omega⟩
      have hG : SStep bs most a false un (a + n) false := by
        rcases hR with ⟨x, hx, hp, h3, h4, _⟩ | ⟨_, _, _, h5⟩
        · have : x = un := by omega
          subst this
          exact .inr (.inr ⟨rfl, rfl, by omega, hp, by omega⟩)
        · simp at h5
      have hS : SRes (bs.drop a) most un n 0 := .inl ⟨hR, h1, h2, rfl⟩
      have HG := hide hG
      have HS := hide hS
      have HH := hide h
      have hn1 : a + n ≤ bs.length := by omega
      have hn2 : n ≤ 10 := by omega
      clear hS hG hR hbd h he h1 h2
      go_enter Tryd.func36, Tryd.ntmps36
      go_wp2_with fail
      go_region_with (go_at_call 44; refine (smallR_any _ (bs.drop a) most un n 0 _ (isl.drewN 1) (by omega) (by omega) (by omega) HS.out).mono ?_; rintro E w1 ⟨rfl, bel1'⟩; have bel1 : Below w.heap.size w w1 := ((Below.refl _ _).drew).trans bel1'; have hr := HH.out.below bel1; have k1 := hr.cell1; have f1 := hr.froz 1; have HR := hide hr; clear hr bel1')
      all_goals
        clear isl hsl
        go_wp2
        go_ret
        exact ⟨un, a + n, false, rfl, HR.out.put1 (a + n) hn1, grown_trans (grown_of_below bel1 _) (grown_setCell _ _ _), HG.out⟩
    · have hG : SStep bs most a false 0 a true := by
        refine .inr (.inl ⟨rfl, rfl, rfl, rfl, fun y hy hp => ?_⟩)
        have := Vm.res_good hR (u := y) (by omega) hp
        omega
      have hS : SRes (bs.drop a) most 0 0 5 := .inr ⟨rfl, rfl, rfl, x, n, f, hR, hcase⟩
      have HG := hide hG
      have HS := hide hS
      have HH := hide h
      clear hS hG hR h he hcase hu hi
      go_enter Tryd.func36, Tryd.ntmps36
      go_wp2_with fail
      go_region_with (go_at_call 44; refine (smallR_any _ (bs.drop a) most 0 0 5 _ (isl.drewN 1) (by omega) (by omega) (by omega) HS.out).mono ?_; rintro E w1 ⟨rfl, bel1'⟩; have bel1 : Below w.heap.size w w1 := ((Below.refl _ _).drew).trans bel1'; have hr := HH.out.below bel1; have k1 := hr.cell2; have f1 := hr.froz 2; have HR := hide hr; clear hr bel1')
      all_goals
        clear isl hsl
        go_wp2
        go_ret
        exact ⟨0, a, true, rfl, HR.out.put2 true, grown_trans (grown_of_below bel1 _) (grown_setCell _ _ _), HG.out⟩
  · have HH := hide h
    clear h
    go_enter Tryd.func36, Tryd.ntmps36
    go_wp2
    go_ret
    exact ⟨0, a, true, rfl, HH.out, World.grownBy.refl _ _, .inl ⟨rfl, rfl, rfl, rfl⟩⟩

set_option maxHeartbeats 400000 in
theorem rbytes_any (w0 w : World) (g : Nat) (vb : Value) (bs : List Int) (a : Nat) (bad : Bool) (n : Nat) (h : Rdr w0 w g vb bs a bad) (hl : bs.length ≤ 150000000000000) (hm : n < 9223372036854775808) :
    Calls Tryd.prog 45 #[.pointer (some ⟨g, 0, none⟩), .int .i64 n] w fun E w' => ∃ (v : Value) (zs : List Int) (a' : Nat) (bad' : Bool), E = .returned v ∧ Own .u8 5 w.heap.size w' v zs ∧ Rdr w0 w' g vb bs a' bad' ∧ w.grownBy w' (some g) ∧ BStep bs n a bad zs a' bad' := by
  have c0 := h.cell0
  have c1 := h.cell1
  have c2 := h.cell2
  have f1 := h.froz 1
  have f2 := h.froz 2
  have ha := h.2.2.2.2
  have hgl := h.lt
  have hlen := h.is.len_run Tryd.elemB
  cases bad
  · by_cases hn : n ≤ bs.length - a
    · obtain ⟨vs, hsl, isl⟩ := h.is.slice_lh Tryd.elemB Tryd.sizeE a (a + n) (by omega) (by omega)
      rw [show a + n - a = n by omega] at isl
      have hsl2 : ∀ wx, (Instr.slice 31 vb (some (.int .i64 (a : Int))) (some (.int .i64 ((a : Int) + (n : Int)))) none).run Tryd.prog wx = .ok vs wx := by simpa using hsl
      have hwr : IntKind.i64.wrap ((a : Int) + (n : Int)) = (a : Int) + n := wrap_i64_small _ (by omega) (by omega)
      clear hsl
      have hge : ¬ (bs.length : Int) - a < n := by omega
      have HH := hide h
      have hlt : ((bs.drop a).take n).length = n := by rw [List.length_take, List.length_drop]; omega
      clear h
      go_enter Tryd.func45, Tryd.ntmps45
      go_wp2_with fail
      go_quiet (fail)
      have is2 : ∀ m, Is .u8 (w.drewN m) vs ((bs.drop a).take n) := fun m => isl.drewN m
      go_wp2_with fail
      go_region_law (refine step_append_is rfl (.tmp 27) (.tmp 42) 31 rfl .u8 5 w.heap.size 1 Tryd.underlying31 Tryd.info5 (by decide) _ [] (by simp [Act.eval, Act.put]) (Own.nil _ _ _ _) _ ((bs.drop a).take n) (by simp [Act.eval, Act.put]) (is2 _) (by simp; omega) (by simp) ?_; intro v3 w3 own3 bel3' _; have bel3 : Below w.heap.size w w3 := (below_drewN (Below.refl _ _) _).trans bel3'; have hr := HH.out.below bel3; have k1 := hr.cell1; have g1 := hr.froz 1; have HR := hide hr; clear hr bel3')
      all_goals
        rw [List.nil_append] at own3
        have own4 := own3.kept (grown_setCell w3 ⟨g, 1, none⟩ (.int .i64 ((a + n : Nat) : Int))) (by
          cases hv : v3.ownBlock with
          | none => exact .inl rfl
          | some b => exact .inr (fun e => by have := own3.block b hv; simp at e; omega))
        clear is2 isl hsl2
        go_wp2
        go_ret
        exact ⟨_, _, a + n, false, rfl, own4, HR.out.put1 (a + n) (by omega), grown_trans (grown_of_below bel3 _) (grown_setCell _ _ _), .inr ⟨rfl, hn, rfl, rfl, rfl⟩⟩
    · have hge : (bs.length : Int) - a < n := by omega
      have HH := hide h
      clear h
      go_enter Tryd.func45, Tryd.ntmps45
      go_wp2_with fail
      go_quiet (fail)
      go_wp2
      go_ret
      exact ⟨_, [], a, true, rfl, Own.nil _ _ _ _, (HH.out.below (below_drewN (Below.refl _ _) nq)).put2 true, grown_trans (grown_drewN _ _ _) (grown_setCell _ _ _), .inl ⟨.inr (by omega), rfl, rfl, rfl⟩⟩
  · have HH := hide h
    clear h
    go_enter Tryd.func45, Tryd.ntmps45
    go_wp2_with fail
    go_quiet (fail)
    go_wp2
    go_ret
    exact ⟨_, [], a, true, rfl, Own.nil _ _ _ _, (HH.out.below (below_drewN (Below.refl _ _) nq)).put2 true, grown_trans (grown_drewN _ _ _) (grown_setCell _ _ _), .inl ⟨.inl rfl, rfl, rfl, rfl⟩⟩

end Go.Proofs.YtdfbagnnieoonaaDoor
