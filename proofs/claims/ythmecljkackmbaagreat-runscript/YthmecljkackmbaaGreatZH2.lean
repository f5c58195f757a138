/- Texts of one layer, one behind the other. -/
import Derived.Test.YthmecljkackmbaaGreatZ8
import Derived.Test.YthmecljkackmbaaGreatZ1
import Derived.Test.YthmecljkackmbaaGreatZ7
import Derived.Test.YthmecljkackmbaaGreatZ12
import Derived.Test.YthmecljkackmbaaGreatZ13
import Derived.Test.YthmecljkackmbaaGreatZH1
import Derived.Test.YthmecljkackmbaaGreatZ17
/- The contracts of the document's reader: Small, Bytes. -/
namespace Go.Proofs.YthmecljkackmbaaGreat
open Go.RowKit
set_option linter.unusedVariables false

theorem Tryz.elemB : Tryz.prog.underlying 112 = some (.slice (Tryz.prog.elem 112)) := by kernel_rfl
theorem Tryz.sizeE (wx : World) : (sizeOf (Tryz.prog.elem 112)).run Tryz.prog wx = .ok 1 wx := by kernel_rfl

/-- A reader in block g: of the bytes bs (they lie where w0 has them), at a place, bad or not. -/
def Rdr (w0 w : World) (g : Nat) (vb : Value) (bs : List Int) (a : Nat) (bad : Bool) : Prop :=
  Is .u8 w0 vb bs ∧ w0.heap.size ≤ g ∧ Below w0.heap.size w0 w ∧ w.heap[g]? = some (.cells #[vb, .int .i64 a, .bool bad] 204 (0, 0)) ∧ a ≤ bs.length

theorem Rdr.lt {w0 w : World} {g a : Nat} {vb : Value} {bs : List Int} {bad : Bool} (h : Rdr w0 w g vb bs a bad) : g < w.heap.size := by
  rcases Nat.lt_or_ge g w.heap.size with h' | h'
  · exact h'
  · have := h.2.2.2.1
    simp [Array.getElem?_eq_none h'] at this

theorem Rdr.is {w0 w : World} {g a : Nat} {vb : Value} {bs : List Int} {bad : Bool} (h : Rdr w0 w g vb bs a bad) : Is .u8 w vb bs := h.1.below h.2.2.1

theorem Rdr.below {w0 w w' : World} {g a : Nat} {vb : Value} {bs : List Int} {bad : Bool} (h : Rdr w0 w g vb bs a bad) (hb : Below w.heap.size w w') : Rdr w0 w' g vb bs a bad := by
  have hl := h.lt
  have hs := h.2.2.1.size
  exact ⟨h.1, h.2.1, h.2.2.1.trans (hb.mono hs), (hb.block g hl).trans h.2.2.2.1, h.2.2.2.2⟩

theorem Rdr.cell0 {w0 w : World} {g a : Nat} {vb : Value} {bs : List Int} {bad : Bool} (h : Rdr w0 w g vb bs a bad) : w.cell? ⟨g, 0, none⟩ = some vb := by simp [World.cell?, h.2.2.2.1]
theorem Rdr.cell1 {w0 w : World} {g a : Nat} {vb : Value} {bs : List Int} {bad : Bool} (h : Rdr w0 w g vb bs a bad) : w.cell? ⟨g, 1, none⟩ = some (.int .i64 a) := by simp [World.cell?, h.2.2.2.1]
theorem Rdr.cell2 {w0 w : World} {g a : Nat} {vb : Value} {bs : List Int} {bad : Bool} (h : Rdr w0 w g vb bs a bad) : w.cell? ⟨g, 2, none⟩ = some (.bool bad) := by simp [World.cell?, h.2.2.2.1]
theorem Rdr.froz {w0 w : World} {g a : Nat} {vb : Value} {bs : List Int} {bad : Bool} (h : Rdr w0 w g vb bs a bad) (j : Nat) : w.frozen? ⟨g, j, none⟩ = false := by simp [World.frozen?, h.2.2.2.1]

theorem Rdr.put1 {w0 w : World} {g a : Nat} {vb : Value} {bs : List Int} {bad : Bool} (h : Rdr w0 w g vb bs a bad) (a' : Nat) (ha : a' ≤ bs.length) : Rdr w0 (w.setCell ⟨g, 1, none⟩ (.int .i64 a')) g vb bs a' bad :=
  ⟨h.1, h.2.1, h.2.2.1.setCell (p := ⟨g, 1, none⟩) h.2.1 _, by rw [set_cells h.2.2.2.1]; rfl, ha⟩
theorem Rdr.put2 {w0 w : World} {g a : Nat} {vb : Value} {bs : List Int} {bad : Bool} (h : Rdr w0 w g vb bs a bad) (bad' : Bool) : Rdr w0 (w.setCell ⟨g, 2, none⟩ (.bool bad')) g vb bs a bad' :=
  ⟨h.1, h.2.1, h.2.2.1.setCell (p := ⟨g, 2, none⟩) h.2.1 _, by rw [set_cells h.2.2.2.1]; rfl, h.2.2.2.2⟩

/-- What a reader's Small does. -/
def SStep (bs : List Int) (most a : Nat) (bad : Bool) (u a' : Nat) (bad' : Bool) : Prop :=
  (bad = true ∧ bad' = true ∧ u = 0 ∧ a' = a) ∨ (bad = false ∧ bad' = true ∧ u = 0 ∧ a' = a ∧ ∀ x : Nat, x ≤ most → ¬ Vm.enc x <+: bs.drop a) ∨ (bad = false ∧ bad' = false ∧ u ≤ most ∧ Vm.enc u <+: bs.drop a ∧ a' = a + Vm.sz u)

/-- What a reader's Bytes does. -/
def BStep (bs : List Int) (n a : Nat) (bad : Bool) (zs : List Int) (a' : Nat) (bad' : Bool) : Prop :=
  ((bad = true ∨ bs.length - a < n) ∧ bad' = true ∧ zs = [] ∧ a' = a) ∨ (bad = false ∧ n ≤ bs.length - a ∧ bad' = false ∧ zs = (bs.drop a).take n ∧ a' = a + n)

set_option maxHeartbeats 400000 in
theorem rsmall_any (w0 w : World) (g : Nat) (vb : Value) (bs : List Int) (a : Nat) (bad : Bool) (most : Nat) (h : Rdr w0 w g vb bs a bad) (hl : bs.length ≤ 150000000000000) (hm : most < 9223372036854775808) :
    Calls Tryz.prog 176 #[.pointer (some ⟨g, 0, none⟩), .int .i64 most] w fun E w' => ∃ (u a' : Nat) (bad' : Bool), E = .returned (.int .i64 u) ∧ Rdr w0 w' g vb bs a' bad' ∧ w.grownBy w' (some g) ∧ SStep bs most a bad u a' bad' := by
  have c0 := h.cell0
  have c1 := h.cell1
  have c2 := h.cell2
  have ha := h.2.2.2.2
  cases bad
  · obtain ⟨vs, hsl, isl⟩ := h.is.slice_l Tryz.elemB Tryz.sizeE a ha
    obtain ⟨u, i, e, hS⟩ := sres_is (bs.drop a) most
    have hdl : (bs.drop a).length = bs.length - a := by rw [List.length_drop]
    rcases hS with ⟨hR, h1, h2, he⟩ | ⟨hu, hi, he, x, n, f, hR, hcase⟩
    · have hbd := Vm.res_bounds hR
      obtain ⟨un, rfl⟩ : ∃ un : Nat, u = un := ⟨u.toNat, by omega⟩
      obtain ⟨n, rfl⟩ : ∃ n : Nat, i = n := ⟨i.toNat, by omega⟩
      have hG : SStep bs most a false un (a + n) false := by
        rcases hR with ⟨x, hx, hp, h3, h4, _⟩ | ⟨_, _, _, h5⟩
        · have : x = un := by omega
          subst this
          exact .inr (.inr ⟨rfl, rfl, by omega, hp, by omega⟩)
        · simp at h5
      have hS : SRes (bs.drop a) most un n 0 := .inl ⟨hR, h1, h2, rfl⟩
      have HG := hide hG
      have HS := hide hS
      have HH := hide h
      have hn1 : a + n ≤ bs.length := by omega
      have hn2 : n ≤ 10 := by omega
      clear hS hG hR hbd h he h1 h2
      go_enter Tryz.func176, Tryz.ntmps176
      go_wp2_with fail
      go_region_with (go_at_call 203; refine (smallR_any _ (bs.drop a) most un n 0 _ (isl.drewN 1) (by omega) (by omega) (by omega) HS.out).mono ?_; rintro E w1 ⟨rfl, bel1'⟩; have bel1 : Below w.heap.size w w1 := ((Below.refl _ _).drew).trans bel1'; have hr := HH.out.below bel1; have k1 := hr.cell1; have f1 := hr.froz 1; have HR := hide hr; clear hr bel1')
      all_goals
        clear isl hsl
        go_wp2
        go_ret
        exact ⟨un, a + n, false, rfl, HR.out.put1 (a + n) hn1, grown_trans (grown_of_below bel1 _) (grown_setCell _ _ _), HG.out⟩
    · have hG : SStep bs most a false 0 a true := by
        refine .inr (.inl ⟨rfl, rfl, rfl, rfl, fun y hy hp => ?_⟩)
        have := Vm.res_good hR (u := y) (by omega) hp
        omega
      have hS : SRes (bs.drop a) most 0 0 5 := .inr ⟨rfl, rfl, rfl, x, n, f, hR, hcase⟩
      have HG := hide hG
      have HS := hide hS
      have HH := hide h
      clear hS hG hR h he hcase hu hi
      go_enter Tryz.func176, Tryz.ntmps176
      go_wp2_with fail
      go_region_with (go_at_call 203; refine (smallR_any _ (bs.drop a) most 0 0 5 _ (isl.drewN 1) (by omega) (by omega) (by omega) HS.out).mono ?_; rintro E w1 ⟨rfl, bel1'⟩; have bel1 : Below w.heap.size w w1 := ((Below.refl _ _).drew).trans bel1'; have hr := HH.out.below bel1; have k1 := hr.cell2; have f1 := hr.froz 2; have HR := hide hr; clear hr bel1')
      all_goals
        clear isl hsl
        go_wp2
        go_ret
        exact ⟨0, a, true, rfl, HR.out.put2 true, grown_trans (grown_of_below bel1 _) (grown_setCell _ _ _), HG.out⟩
  · have HH := hide h
    clear h
    go_enter Tryz.func176, Tryz.ntmps176
    go_wp2
    go_ret
    exact ⟨0, a, true, rfl, HH.out, World.grownBy.refl _ _, .inl ⟨rfl, rfl, rfl, rfl⟩⟩

set_option maxHeartbeats 400000 in
theorem rbytes_any (w0 w : World) (g : Nat) (vb : Value) (bs : List Int) (a : Nat) (bad : Bool) (n : Nat) (h : Rdr w0 w g vb bs a bad) (hl : bs.length ≤ 150000000000000) (hm : n < 9223372036854775808) :
    Calls Tryz.prog 175 #[.pointer (some ⟨g, 0, none⟩), .int .i64 n] w fun E w' => ∃ (v : Value) (zs : List Int) (a' : Nat) (bad' : Bool), E = .returned v ∧ Own .u8 5 w.heap.size w' v zs ∧ Rdr w0 w' g vb bs a' bad' ∧ w.grownBy w' (some g) ∧ BStep bs n a bad zs a' bad' := by
  have c0 := h.cell0
  have c1 := h.cell1
  have c2 := h.cell2
  have f1 := h.froz 1
  have f2 := h.froz 2
  have ha := h.2.2.2.2
  have hgl := h.lt
  have hlen := h.is.len_run Tryz.elemB
  cases bad
  · by_cases hn : n ≤ bs.length - a
    · obtain ⟨vs, hsl, isl⟩ := h.is.slice_lh Tryz.elemB Tryz.sizeE a (a + n) (by omega) (by omega)
      rw [show a + n - a = n by omega] at isl
      have hsl2 : ∀ wx, (Instr.slice 112 vb (some (.int .i64 (a : Int))) (some (.int .i64 ((a : Int) + (n : Int)))) none).run Tryz.prog wx = .ok vs wx := by simpa using hsl
      have hwr : IntKind.i64.wrap ((a : Int) + (n : Int)) = (a : Int) + n := wrap_i64_small _ (by omega) (by omega)
      clear hsl
      have hge : ¬ (bs.length : Int) - a < n := by omega
      have HH := hide h
      have hlt : ((bs.drop a).take n).length = n := by rw [List.length_take, List.length_drop]; omega
      clear h
      go_enter Tryz.func175, Tryz.ntmps175
      go_wp2_with fail
      go_quiet (fail)
      have is2 : ∀ m, Is .u8 (w.drewN m) vs ((bs.drop a).take n) := fun m => isl.drewN m
      go_wp2_with fail
      go_region_law (refine step_append_is rfl (.tmp 27) (.tmp 42) 112 rfl .u8 5 w.heap.size 1 Tryz.underlying112 Tryz.info5 (by decide) _ [] (by simp [Act.eval, Act.put]) (Own.nil _ _ _ _) _ ((bs.drop a).take n) (by simp [Act.eval, Act.put]) (is2 _) (by simp; omega) (by simp) ?_; intro v3 w3 own3 bel3' _; have bel3 : Below w.heap.size w w3 := (below_drewN (Below.refl _ _) _).trans bel3'; have hr := HH.out.below bel3; have k1 := hr.cell1; have g1 := hr.froz 1; have HR := hide hr; clear hr bel3')
      all_goals
        rw [List.nil_append] at own3
        have own4 := own3.kept (grown_setCell w3 ⟨g, 1, none⟩ (.int .i64 ((a + n : Nat) : Int))) (by
          cases hv : v3.ownBlock with
          | none => exact .inl rfl
          | some b => exact .inr (fun e => by have := own3.block b hv; simp at e; omega))
        clear is2 isl hsl2
        go_wp2
        go_ret
        exact ⟨_, _, a + n, false, rfl, own4, HR.out.put1 (a + n) (by omega), grown_trans (grown_of_below bel3 _) (grown_setCell _ _ _), .inr ⟨rfl, hn, rfl, rfl, rfl⟩⟩
    · have hge : (bs.length : Int) - a < n := by omega
      have HH := hide h
      clear h
      go_enter Tryz.func175, Tryz.ntmps175
      go_wp2_with fail
      go_quiet (fail)
      go_wp2
      go_ret
      exact ⟨_, [], a, true, rfl, Own.nil _ _ _ _, (HH.out.below (below_drewN (Below.refl _ _) nq)).put2 true, grown_trans (grown_drewN _ _ _) (grown_setCell _ _ _), .inl ⟨.inr (by omega), rfl, rfl, rfl⟩⟩
  · have HH := hide h
    clear h
    go_enter Tryz.func175, Tryz.ntmps175
    go_wp2_with fail
    go_quiet (fail)
    go_wp2
    go_ret
    exact ⟨_, [], a, true, rfl, Own.nil _ _ _ _, (HH.out.below (below_drewN (Below.refl _ _) nq)).put2 true, grown_trans (grown_drewN _ _ _) (grown_setCell _ _ _), .inl ⟨.inl rfl, rfl, rfl, rfl⟩⟩

end Go.Proofs.YthmecljkackmbaaGreat

/- The contract of the document's Next. -/
namespace Go.Proofs.YthmecljkackmbaaGreat
open Go.RowKit
set_option linter.unusedVariables false

/-- What Next comes to. -/
def NStep (bs : List Int) (a : Nat) (bad : Bool) (p : Bool) (k v : List UInt8) (a' : Nat) (bad' : Bool) : Prop :=
  (bad = true ∧ bad' = true ∧ p = false ∧ k = [] ∧ v = []) ∨ (bad = false ∧ ∃ n e : Int, Om.ORes (bs.drop a) p k v n e ∧ bad' = decide (e ≠ 0) ∧ (e = 0 → (a' : Int) = a + n))

theorem kind_bad {bs : List Int} (h : ∀ x : Nat, x ≤ 1 → ¬ Vm.enc x <+: bs) : Om.ORes bs false [] [] 0 5 := by
  refine .inr ⟨rfl, rfl, rfl, rfl, rfl, fun p k v _ hp => ?_⟩
  cases p
  · exact h 0 (by omega) ((show Vm.enc 0 <+: Om.opEnc false k v by rw [Vm.enc_lo (by omega)]; simp [Om.opEnc]).trans hp)
  · exact h 1 (by omega) ((show Vm.enc 1 <+: Om.opEnc true k v by rw [Vm.enc_lo (by omega)]; simp [Om.opEnc]).trans hp)

/-- A count and the bytes behind it, read. -/
theorem cstep {bs : List Int} (hby : ∀ z ∈ bs, 0 ≤ z ∧ z < 256) {most a u a1 a2 : Nat} {b1 b2 : Bool} {zs : List Int} (hm : most ≤ 64) (ha : a ≤ bs.length) (hs : SStep bs most a false u a1 b1) (hb : BStep bs u a1 b1 zs a2 b2) :
    (b2 = true ∧ zs = [] ∧ Om.CRes (bs.drop a) most [] 0 5) ∨ (b2 = false ∧ Om.CRes (bs.drop a) most (Om.byts zs) (a2 - a) 0 ∧ a ≤ a2 ∧ a2 ≤ bs.length) := by
  rcases hs with ⟨h, _⟩ | ⟨_, rfl, rfl, rfl, h⟩ | ⟨_, rfl, hu, hp, rfl⟩
  · simp at h
  · rcases hb with ⟨_, rfl, rfl, rfl⟩ | ⟨h', _⟩
    · exact .inl ⟨rfl, rfl, .inr ⟨rfl, rfl, rfl, fun t ht hp => h t.length (by omega) ((List.prefix_append _ _).trans hp)⟩⟩
    · simp at h'
  · have hR : Vm.Res (bs.drop a) u (Vm.sz u : Nat) 0 := .inl ⟨u, by omega, hp, rfl, rfl, rfl⟩
    have hl := hp.length_le
    rw [List.length_drop] at hl
    rcases hb with ⟨h', rfl, rfl, rfl⟩ | ⟨_, h', rfl, rfl, rfl⟩
    · refine .inl ⟨rfl, rfl, .inr ⟨rfl, rfl, rfl, fun t ht => cres_short (most := most) hR ?_ t ht hm⟩⟩
      rw [List.length_drop]
      unfold Vm.sz at *
      simp at h'
      omega
    · refine .inr ⟨rfl, ?_, by omega, by unfold Vm.sz at *; omega⟩
      have := cres_good (most := most) (u := u) (n := Vm.sz u) (fun z hz => hby z (List.mem_of_mem_drop hz)) hR hu (by rw [List.length_drop]; unfold Vm.sz at *; omega)
      rw [List.drop_drop] at this
      rw [show a + Vm.sz u + u - a = Vm.sz u + u by omega]
      exact this

theorem bad_stays {bs : List Int} {most a u a1 a2 : Nat} {b1 b2 : Bool} {zs : List Int} (hs : SStep bs most a true u a1 b1) (hb : BStep bs u a1 b1 zs a2 b2) : b2 = true ∧ zs = [] := by
  rcases hs with ⟨_, rfl, rfl, rfl⟩ | ⟨h, _⟩ | ⟨h, _⟩
  · rcases hb with ⟨_, rfl, rfl, rfl⟩ | ⟨h, _⟩
    · exact ⟨rfl, rfl⟩
    · simp at h
  · simp at h
  · simp at h

/-- Behind the kind: what stands there. -/
theorem kind_ok {bs : List Int} {a u a1 : Nat} {b1 : Bool} (hs : SStep bs 1 a false u a1 b1) : (b1 = true ∧ u = 0 ∧ Om.ORes (bs.drop a) false [] [] 0 5) ∨ (b1 = false ∧ u ≤ 1 ∧ a1 = a + 1 ∧ a1 ≤ bs.length ∧ bs.drop a = (u : Int) :: bs.drop a1) := by
  rcases hs with ⟨h, _⟩ | ⟨_, rfl, rfl, rfl, h⟩ | ⟨_, rfl, hu, hp, rfl⟩
  · simp at h
  · exact .inl ⟨rfl, rfl, kind_bad h⟩
  · rw [Vm.sz_lo (by omega)]
    rw [Vm.enc_lo (by omega)] at hp
    have hl := hp.length_le
    simp at hl
    obtain ⟨r, hr⟩ := hp
    refine .inr ⟨rfl, hu, rfl, by omega, ?_⟩
    have : bs.drop (a + 1) = r := by rw [← List.drop_drop, ← hr]; simp
    rw [this, ← hr]
    simp

/-- A delete, or something bad, read. -/
theorem next_del {bs : List Int} (hby : ∀ z ∈ bs, 0 ≤ z ∧ z < 256) {a u a1 u2 a2 a3 : Nat} {bad b1 b2 b3 : Bool} {zs : List Int} (ha : a ≤ bs.length) (h1 : SStep bs 1 a bad u a1 b1) (hu : u ≠ 1) (h2 : SStep bs 16 a1 b1 u2 a2 b2) (h3 : BStep bs u2 a2 b2 zs a3 b3) :
    (b3 = true ∧ zs = [] ∧ ∀ a', NStep bs a bad false [] [] a' true) ∨ (b3 = false ∧ Om.chk false (Om.byts zs) [] = 0 ∧ NStep bs a bad false (Om.byts zs) [] a3 false) ∨ (b3 = false ∧ Om.chk false (Om.byts zs) [] = 2 ∧ ∀ a', NStep bs a bad false [] [] a' true) := by
  cases bad
  · rcases kind_ok h1 with ⟨rfl, rfl, h⟩ | ⟨rfl, hu1, rfl, hal, hd⟩
    · have := bad_stays h2 h3
      exact .inl ⟨this.1, this.2, fun a' => .inr ⟨rfl, 0, 5, h, rfl, fun h => by simp at h⟩⟩
    · have hu0 : u = 0 := by omega
      subst hu0
      have hd' : bs.drop a = (0 : Int) :: bs.drop (a + 1) := by simpa using hd
      rcases cstep hby (by omega) hal h2 h3 with ⟨rfl, rfl, hc⟩ | ⟨rfl, hc, hle, hle2⟩
      · refine .inl ⟨rfl, rfl, fun a' => .inr ⟨rfl, 0, 5, ?_, rfl, fun h => by simp at h⟩⟩
        rw [hd']
        exact Om.ores_key hc (.inl (by simp))
      · have hlen : (Om.byts zs).length ≤ 16 := by
          rcases hc with ⟨_, h, _⟩ | ⟨h, _⟩
          · exact h
          · simp at h
        by_cases hz : Om.byts zs = []
        · refine .inr (.inr ⟨rfl, Om.chk_no (by rw [hz]; simp), fun a' => .inr ⟨rfl, 0, 5, ?_, rfl, fun h => by simp at h⟩⟩)
          rw [hd']
          exact Om.ores_key hc (.inr hz)
        · have hp : 0 < (Om.byts zs).length := List.length_pos_iff.2 hz
          refine .inr (.inl ⟨rfl, Om.chk_ok ⟨by omega, hlen, by simp, .inr rfl⟩, .inr ⟨rfl, ((1 + (a3 - (a + 1)) : Nat) : Int), 0, ?_, rfl, fun _ => ?_⟩⟩)
          · rw [hd']
            exact Om.ores_del hc hz
          · omega
  · rcases h1 with ⟨_, rfl, rfl, rfl⟩ | ⟨h, _⟩ | ⟨h, _⟩
    · have := bad_stays h2 h3
      exact .inl ⟨this.1, this.2, fun a' => .inl ⟨rfl, rfl, rfl, rfl, rfl⟩⟩
    · simp at h
    · simp at h

/-- A put, read. -/
theorem next_put {bs : List Int} (hby : ∀ z ∈ bs, 0 ≤ z ∧ z < 256) {a a1 u2 a2 a3 u4 a4 a5 : Nat} {bad b1 b2 b3 b4 b5 : Bool} {zs ys : List Int} (ha : a ≤ bs.length) (h1 : SStep bs 1 a bad 1 a1 b1) (h2 : SStep bs 16 a1 b1 u2 a2 b2) (h3 : BStep bs u2 a2 b2 zs a3 b3) (h4 : SStep bs 32 a3 b3 u4 a4 b4) (h5 : BStep bs u4 a4 b4 ys a5 b5) :
    (b5 = true ∧ ∀ a', NStep bs a bad false [] [] a' true) ∨ (b5 = false ∧ Om.chk true (Om.byts zs) (Om.byts ys) = 0 ∧ NStep bs a bad true (Om.byts zs) (Om.byts ys) a5 false) ∨ (b5 = false ∧ Om.chk true (Om.byts zs) (Om.byts ys) = 2 ∧ ∀ a', NStep bs a bad false [] [] a' true) := by
  cases bad
  · rcases kind_ok h1 with ⟨rfl, h, _⟩ | ⟨rfl, hu1, rfl, hal, hd⟩
    · simp at h
    · have hd' : bs.drop a = (1 : Int) :: bs.drop (a + 1) := by simpa using hd
      rcases cstep hby (by omega) hal h2 h3 with ⟨rfl, rfl, hc⟩ | ⟨rfl, hc, hle, hle2⟩
      · have := bad_stays h4 h5
        refine .inl ⟨this.1, fun a' => .inr ⟨rfl, 0, 5, ?_, rfl, fun h => by simp at h⟩⟩
        rw [hd']
        exact Om.ores_key hc (.inl (by simp))
      · have hlen : (Om.byts zs).length ≤ 16 := by
          rcases hc with ⟨_, h, _⟩ | ⟨h, _⟩
          · exact h
          · simp at h
        rcases cstep hby (by omega) hle2 h4 h5 with ⟨rfl, rfl, hv⟩ | ⟨rfl, hv, hle4, hle5⟩
        · refine .inl ⟨rfl, fun a' => .inr ⟨rfl, 0, 5, ?_, rfl, fun h => by simp at h⟩⟩
          rw [hd']
          refine Om.ores_val hc (e := 5) (t := []) (m := 0) ?_ (by simp)
          rw [List.drop_drop, show a + 1 + (a3 - (a + 1)) = a3 by omega]
          exact hv
        · have hlen2 : (Om.byts ys).length ≤ 32 := by
            rcases hv with ⟨_, h, _⟩ | ⟨h, _⟩
            · exact h
            · simp at h
          by_cases hz : Om.byts zs = []
          · refine .inr (.inr ⟨rfl, Om.chk_no (by rw [hz]; simp), fun a' => .inr ⟨rfl, 0, 5, ?_, rfl, fun h => by simp at h⟩⟩)
            rw [hd']
            exact Om.ores_key hc (.inr hz)
          · have hp : 0 < (Om.byts zs).length := List.length_pos_iff.2 hz
            refine .inr (.inl ⟨rfl, Om.chk_ok ⟨by omega, hlen, hlen2, .inl rfl⟩, .inr ⟨rfl, ((1 + (a3 - (a + 1)) + (a5 - a3) : Nat) : Int), 0, ?_, rfl, fun _ => ?_⟩⟩)
            · rw [hd']
              refine Om.ores_put hc hz (m := a5 - a3) ?_
              rw [List.drop_drop, show a + 1 + (a3 - (a + 1)) = a3 by omega]
              exact hv
            · omega
  · rcases h1 with ⟨_, _, h, _⟩ | ⟨h, _⟩ | ⟨h, _⟩ <;> simp at h

theorem Rdr.grown {w0 w w' : World} {g a O : Nat} {vb : Value} {bs : List Int} {bad : Bool} (h : Rdr w0 w g vb bs a bad) (hg : w.grownBy w' (some O)) (h1 : w0.heap.size ≤ O) (hne : O ≠ g) : Rdr w0 w' g vb bs a bad :=
  ⟨h.1, h.2.1, h.2.2.1.grown hg h.2.2.1.size (fun k hk => by simp at hk; omega), (hg.block g h.lt (by simp; omega)).trans h.2.2.2.1, h.2.2.2.2⟩

set_option maxHeartbeats 1000000 in
theorem onext_any (w0 w : World) (g : Nat) (vb : Value) (bs : List Int) (a : Nat) (bad : Bool) (h : Rdr w0 w g vb bs a bad) (hl : bs.length ≤ 140737488355328) :
    Calls Tryz.prog 177 #[.pointer (some ⟨g, 0, none⟩)] w fun E w' => ∃ (p : Bool) (k v : ByteArray) (a' : Nat) (bad' : Bool), E = .returned (opv p k v) ∧ Rdr w0 w' g vb bs a' bad' ∧ w.grownBy w' (some g) ∧ NStep bs a bad p k.data.toList v.data.toList a' bad' := by
  have hby := h.1.bytes
  have ha := h.2.2.2.2
  have hgl := h.lt
  have hw0 := h.2.1
  obtain ⟨W, hW, szW, belW, blkW⟩ := blk_step w #[.bool false, .string ⟨#[]⟩, .string ⟨#[]⟩] 81
  have hr := h.below belW
  unfold opv
  go_enter Tryz.func177, Tryz.ntmps177
  go_wp2_with fail
  refine (rsmall_any w0 W g vb bs a bad 1 hr (by omega) (by omega)).mono ?_
  rintro E w1 ⟨u, a1, b1, rfl, r1, g1, s1⟩
  have blk1 := (g1.block w.heap.size (by omega) (by simp; omega)).trans blkW
  go_wp2_with fail
  refine (rsmall_any w0 w1 g vb bs a1 b1 16 r1 (by omega) (by omega)).mono ?_
  rintro E w2 ⟨u2, a2, b2, rfl, r2, g2, s2⟩
  have blk2 := (g2.block w.heap.size (blk_lt blk1) (by simp; omega)).trans blk1
  have hu2 : u2 ≤ 16 := by
    rcases s2 with ⟨_, _, h, _⟩ | ⟨_, _, h, _⟩ | ⟨_, _, h, _⟩ <;> omega
  go_wp2_with fail
  refine (rbytes_any w0 w2 g vb bs a2 b2 u2 r2 (by omega) (by omega)).mono ?_
  rintro E w3 ⟨v3, zs, a3, b3, rfl, own3, r3, g3, s3⟩
  have blk3 := (g3.block w.heap.size (blk_lt blk2) (by simp; omega)).trans blk2
  have hconv := own3.is.conv Tryz.underlying112 Tryz.underlying5 Tryz.underlying9
  have gA : w.grownBy w3 (some g) := grown_trans (grown_trans (grown_trans (grown_of_below belW _) g1) g2) g3
  have hszR : w.heap.size < w3.heap.size := blk_lt blk3
  clear own3 hW szW belW blkW hr g1 g2 g3 blk1 blk2 r1 r2 h
  by_cases hu : u = 1
  · subst hu
    have hkl : (Om.byts zs).length ≤ 16 := by
      rw [Om.byts_len]
      rcases s3 with ⟨_, _, rfl, _⟩ | ⟨_, _, _, rfl, _⟩
      · simp
      · rw [List.length_take]; omega
    obtain ⟨ks, hks⟩ : ∃ ks, Om.byts zs = ks := ⟨_, rfl⟩
    rw [hks] at hconv hkl
    have HKS := hide hks
    have HS1 := hide s1
    have HS2 := hide s2
    have HS3 := hide s3
    clear hks s1 s2 s3
    obtain ⟨W4, hW4, sz4, bel4, blk4⟩ := blk_step w3 #[.bool true, .string ⟨ks.toArray⟩, .string ⟨#[]⟩] 81
    have r4 := r3.below bel4
    have blkR := (bel4.block w.heap.size hszR).trans blk3
    have e2 : W4.setCell ⟨w3.heap.size, 2, none⟩ (.string ⟨#[]⟩) = W4 := set_same blk4 (j := 2) rfl
    have o0 : W4.cell? ⟨w3.heap.size, 0, none⟩ = some (.bool true) := blk_cell blk4 0 rfl
    have o1 : W4.cell? ⟨w3.heap.size, 1, none⟩ = some (.string ⟨ks.toArray⟩) := blk_cell blk4 1 rfl
    have o2 : W4.cell? ⟨w3.heap.size, 2, none⟩ = some (.string ⟨#[]⟩) := blk_cell blk4 2 rfl
    have O2 := blk_froz blk4 2
    have c2 := r4.cell2
    have f2 := r4.froz 2
    have gB : w.grownBy W4 (some g) := grown_trans gA (grown_of_below bel4 _)
    have HR4 := hide r4
    have HB4 := hide blk4
    clear r3 r4 blk3 blk4 gA bel4
    have hO : w3.heap.size ≠ g := by omega
    go_wp2_with fail
    refine (rsmall_any w0 W4 g vb bs a3 b3 32 HR4.out (by omega) (by omega)).mono ?_
    rintro E w5 ⟨u4, a4, b4, rfl, r5, g5, s4⟩
    have hu4 : u4 ≤ 32 := by
      rcases s4 with ⟨_, _, h, _⟩ | ⟨_, _, h, _⟩ | ⟨_, _, h, _⟩ <;> omega
    have blkO5 := (g5.block w3.heap.size (blk_lt HB4.out) (by simp; omega)).trans HB4.out
    have blkR5 := (g5.block w.heap.size (blk_lt blkR) (by simp; omega)).trans blkR
    go_wp2_with fail
    refine (rbytes_any w0 w5 g vb bs a4 b4 u4 r5 (by omega) (by omega)).mono ?_
    rintro E w6 ⟨v6, ys, a5, b5, rfl, own6, r6, g6, s5⟩
    have blkO6 := (g6.block w3.heap.size (blk_lt blkO5) (by simp; omega)).trans blkO5
    have blkR6 := (g6.block w.heap.size (blk_lt blkR5) (by simp; omega)).trans blkR5
    have hconv2 := own6.is.conv Tryz.underlying112 Tryz.underlying5 Tryz.underlying9
    have g6' : w.grownBy w6 (some g) := grown_trans (grown_trans gB g5) g6
    have hN := next_put hby ha HS1.out HS2.out HS3.out s4 s5
    have hyl : (Om.byts ys).length ≤ 32 := by
      rw [Om.byts_len]
      rcases s5 with ⟨_, _, rfl, _⟩ | ⟨_, _, _, rfl, _⟩
      · simp
      · rw [List.length_take]; omega
    rw [HKS.out] at hN
    generalize Om.byts ys = js at *
    obtain ⟨V6, hV6⟩ : ∃ V, w6.setCell ⟨w3.heap.size, 2, none⟩ (.string ⟨js.toArray⟩) = V := ⟨_, rfl⟩
    have q2 : w6.cell? ⟨w3.heap.size, 2, none⟩ = some (.string ⟨#[]⟩) := blk_cell blkO6 2 rfl
    have z2 := blk_froz blkO6 2
    have rV6 : Rdr w0 V6 g vb bs a5 b5 := by rw [← hV6]; exact r6.grown (grown_setCell _ ⟨w3.heap.size, 2, none⟩ _) (show w0.heap.size ≤ w3.heap.size by omega) hO
    have bO6 : V6.heap[w3.heap.size]? = some (.cells #[.bool true, .string ⟨ks.toArray⟩, .string ⟨js.toArray⟩] 81 (0, 0)) := by rw [← hV6]; exact set_cells blkO6 2 _
    have bR6 := blkR6
    rw [← Below.heap_setCell w6 ⟨w3.heap.size, 2, none⟩ (.string ⟨js.toArray⟩) w.heap.size (by simp; omega), hV6] at bR6
    have gV6 : w.grownBy V6 (some g) := by rw [← hV6]; exact grown_fresh g6' (grown_setCell _ ⟨w3.heap.size, 2, none⟩ _) (show w.heap.size ≤ w3.heap.size by omega)
    have t0 : V6.cell? ⟨w3.heap.size, 0, none⟩ = some (.bool true) := blk_cell bO6 0 rfl
    have t1 : V6.cell? ⟨w3.heap.size, 1, none⟩ = some (.string ⟨ks.toArray⟩) := blk_cell bO6 1 rfl
    have t2 : V6.cell? ⟨w3.heap.size, 2, none⟩ = some (.string ⟨js.toArray⟩) := blk_cell bO6 2 rfl
    have tb := rV6.cell2
    have tf := rV6.froz 2
    have HRV := hide rV6
    have HBO := hide bO6
    clear s4 s5 HS1 HS2 HS3 HKS g5 g6 g6' r5 r6 blkO5 blkO6 blkR5 blkR6 own6 rV6 bO6 HB4 HR4 gB blkR c2 f2 o0 o1 hby ha
    rcases hN with ⟨rfl, hN⟩ | ⟨rfl, hc, hN⟩ | ⟨rfl, hc, hN⟩
    · have HN := hide hN
      clear hN
      obtain ⟨V, hV⟩ : ∃ V, V6.setCell ⟨g, 2, none⟩ (.bool true) = V := ⟨_, rfl⟩
      have rV : Rdr w0 V g vb bs a5 true := by rw [← hV]; exact HRV.out.put2 true
      have bV : V.heap[w.heap.size]? = some (.cells #[.bool false, .string ⟨#[]⟩, .string ⟨#[]⟩] 81 (0, 0)) := by
        rw [← hV, Below.heap_setCell _ _ _ _ (by simp; omega)]
        exact bR6
      have gV : w.grownBy V (some g) := by rw [← hV]; exact grown_trans gV6 (grown_setCell _ _ _)
      obtain ⟨V', hV', bV', gV'⟩ := put3 bV (.bool false) (.string ⟨#[]⟩) (.string ⟨#[]⟩)
      have R0 : V.cell? ⟨w.heap.size, 0, none⟩ = some (.bool false) := blk_cell bV 0 rfl
      have R1 : V.cell? ⟨w.heap.size, 1, none⟩ = some (.string ⟨#[]⟩) := blk_cell bV 1 rfl
      have R2 : V.cell? ⟨w.heap.size, 2, none⟩ = some (.string ⟨#[]⟩) := blk_cell bV 2 rfl
      have F0 := blk_froz bV 0
      have F1 := blk_froz bV 1
      have F2 := blk_froz bV 2
      have k0 : V'.cell? ⟨w.heap.size, 0, none⟩ = some (.bool false) := blk_cell bV' 0 rfl
      have k1 : V'.cell? ⟨w.heap.size, 1, none⟩ = some (.string ⟨#[]⟩) := blk_cell bV' 1 rfl
      have k2 : V'.cell? ⟨w.heap.size, 2, none⟩ = some (.string ⟨#[]⟩) := blk_cell bV' 2 rfl
      have HF : Hid (Rdr w0 V' g vb bs a5 true ∧ w.grownBy V' (some g)) := ⟨rV.grown gV' (by omega) (by omega), grown_fresh gV gV' (Nat.le_refl _)⟩
      clear rV bV gV bV' gV' bR6
      go_wp2
      refine bodyPost_ret (v := .agg #[.bool false, .string ⟨#[]⟩, .string ⟨#[]⟩]) (by simp [results, Tryz.results177, go_sem, k0, k1, k2]) rfl ?_
      exact ⟨_, _, _, _, _, rfl, HF.out.1, HF.out.2, HN.out _⟩
    · have HN := hide hN
      have hc' : Om.chk true (⟨ks.toArray⟩ : ByteArray).data.toList (⟨js.toArray⟩ : ByteArray).data.toList = 0 := hc
      have HC := hide hc'
      clear hN hc hc'
      go_wp2_with fail
      refine (checkR_any true ⟨ks.toArray⟩ ⟨js.toArray⟩ _ (by rw [Lib.size_eq]; simp; omega) (by rw [Lib.size_eq]; simp; omega)).mono ?_
      rintro E w9 ⟨rfl, bel9⟩
      rw [HC.out]
      have r9 := HRV.out.below bel9
      have blk9 := (bel9.block w3.heap.size (blk_lt HBO.out)).trans HBO.out
      have blkR9 := (bel9.block w.heap.size (blk_lt bR6)).trans bR6
      have gB9 : w.grownBy w9 (some g) := grown_trans gV6 (grown_of_below bel9 _)
      have p0 : w9.cell? ⟨w3.heap.size, 0, none⟩ = some (.bool true) := blk_cell blk9 0 rfl
      have p1 : w9.cell? ⟨w3.heap.size, 1, none⟩ = some (.string ⟨ks.toArray⟩) := blk_cell blk9 1 rfl
      have p2 : w9.cell? ⟨w3.heap.size, 2, none⟩ = some (.string ⟨js.toArray⟩) := blk_cell blk9 2 rfl
      have d2 := r9.cell2
      have h2 := r9.froz 2
      have HR9 := hide r9
      clear r9 blk9 bel9 bR6
      have bV := blkR9
      have gV := gB9
      have rV := HR9.out
      obtain ⟨V', hV', bV', gV'⟩ := put3 bV (.bool true) (.string ⟨ks.toArray⟩) (.string ⟨js.toArray⟩)
      have R0 : w9.cell? ⟨w.heap.size, 0, none⟩ = some (.bool false) := blk_cell bV 0 rfl
      have R1 : w9.cell? ⟨w.heap.size, 1, none⟩ = some (.string ⟨#[]⟩) := blk_cell bV 1 rfl
      have R2 : w9.cell? ⟨w.heap.size, 2, none⟩ = some (.string ⟨#[]⟩) := blk_cell bV 2 rfl
      have F0 := blk_froz bV 0
      have F1 := blk_froz bV 1
      have F2 := blk_froz bV 2
      have k0 : V'.cell? ⟨w.heap.size, 0, none⟩ = some (.bool true) := blk_cell bV' 0 rfl
      have k1 : V'.cell? ⟨w.heap.size, 1, none⟩ = some (.string ⟨ks.toArray⟩) := blk_cell bV' 1 rfl
      have k2 : V'.cell? ⟨w.heap.size, 2, none⟩ = some (.string ⟨js.toArray⟩) := blk_cell bV' 2 rfl
      have HF : Hid (Rdr w0 V' g vb bs a5 false ∧ w.grownBy V' (some g)) := ⟨rV.grown gV' (by omega) (by omega), grown_fresh gV gV' (Nat.le_refl _)⟩
      clear rV bV gV bV' gV' blkR9
      go_wp2
      refine bodyPost_ret (v := .agg #[.bool true, .string ⟨ks.toArray⟩, .string ⟨js.toArray⟩]) (by simp [results, Tryz.results177, go_sem, k0, k1, k2]) rfl ?_
      exact ⟨_, _, _, _, _, rfl, HF.out.1, HF.out.2, HN.out⟩
    · have HN := hide hN
      have hc' : Om.chk true (⟨ks.toArray⟩ : ByteArray).data.toList (⟨js.toArray⟩ : ByteArray).data.toList = 2 := hc
      have HC := hide hc'
      clear hN hc hc'
      go_wp2_with fail
      refine (checkR_any true ⟨ks.toArray⟩ ⟨js.toArray⟩ _ (by rw [Lib.size_eq]; simp; omega) (by rw [Lib.size_eq]; simp; omega)).mono ?_
      rintro E w9 ⟨rfl, bel9⟩
      rw [HC.out]
      have r9 := HRV.out.below bel9
      have blk9 := (bel9.block w3.heap.size (blk_lt HBO.out)).trans HBO.out
      have blkR9 := (bel9.block w.heap.size (blk_lt bR6)).trans bR6
      have gB9 : w.grownBy w9 (some g) := grown_trans gV6 (grown_of_below bel9 _)
      have p0 : w9.cell? ⟨w3.heap.size, 0, none⟩ = some (.bool true) := blk_cell blk9 0 rfl
      have p1 : w9.cell? ⟨w3.heap.size, 1, none⟩ = some (.string ⟨ks.toArray⟩) := blk_cell blk9 1 rfl
      have p2 : w9.cell? ⟨w3.heap.size, 2, none⟩ = some (.string ⟨js.toArray⟩) := blk_cell blk9 2 rfl
      have d2 := r9.cell2
      have h2 := r9.froz 2
      have HR9 := hide r9
      clear r9 blk9 bel9 bR6
      obtain ⟨V, hV⟩ : ∃ V, w9.setCell ⟨g, 2, none⟩ (.bool true) = V := ⟨_, rfl⟩
      have rV : Rdr w0 V g vb bs a5 true := by rw [← hV]; exact HR9.out.put2 true
      have bV : V.heap[w.heap.size]? = some (.cells #[.bool false, .string ⟨#[]⟩, .string ⟨#[]⟩] 81 (0, 0)) := by
        rw [← hV, Below.heap_setCell _ _ _ _ (by simp; omega)]
        exact blkR9
      have gV : w.grownBy V (some g) := by rw [← hV]; exact grown_trans gB9 (grown_setCell _ _ _)
      obtain ⟨V', hV', bV', gV'⟩ := put3 bV (.bool false) (.string ⟨#[]⟩) (.string ⟨#[]⟩)
      have R0 : V.cell? ⟨w.heap.size, 0, none⟩ = some (.bool false) := blk_cell bV 0 rfl
      have R1 : V.cell? ⟨w.heap.size, 1, none⟩ = some (.string ⟨#[]⟩) := blk_cell bV 1 rfl
      have R2 : V.cell? ⟨w.heap.size, 2, none⟩ = some (.string ⟨#[]⟩) := blk_cell bV 2 rfl
      have F0 := blk_froz bV 0
      have F1 := blk_froz bV 1
      have F2 := blk_froz bV 2
      have k0 : V'.cell? ⟨w.heap.size, 0, none⟩ = some (.bool false) := blk_cell bV' 0 rfl
      have k1 : V'.cell? ⟨w.heap.size, 1, none⟩ = some (.string ⟨#[]⟩) := blk_cell bV' 1 rfl
      have k2 : V'.cell? ⟨w.heap.size, 2, none⟩ = some (.string ⟨#[]⟩) := blk_cell bV' 2 rfl
      have HF : Hid (Rdr w0 V' g vb bs a5 true ∧ w.grownBy V' (some g)) := ⟨rV.grown gV' (by omega) (by omega), grown_fresh gV gV' (Nat.le_refl _)⟩
      clear rV bV gV bV' gV' blkR9
      go_wp2
      refine bodyPost_ret (v := .agg #[.bool false, .string ⟨#[]⟩, .string ⟨#[]⟩]) (by simp [results, Tryz.results177, go_sem, k0, k1, k2]) rfl ?_
      exact ⟨_, _, _, _, _, rfl, HF.out.1, HF.out.2, HN.out _⟩
  · have hN := next_del hby ha s1 hu s2 s3
    have hq : ((u : Int) == 1) = false := by simp; omega
    have hkl : (Om.byts zs).length ≤ 16 := by
      rw [Om.byts_len]
      rcases s3 with ⟨_, _, rfl, _⟩ | ⟨_, _, _, rfl, _⟩
      · simp
      · rw [List.length_take]; omega
    clear s1 s2 s3 hby ha
    generalize Om.byts zs = ks at *
    obtain ⟨W4, hW4, sz4, bel4, blk4⟩ := blk_step w3 #[.bool false, .string ⟨ks.toArray⟩, .string ⟨#[]⟩] 81
    have r4 := r3.below bel4
    have blkR := (bel4.block w.heap.size hszR).trans blk3
    have e2 : W4.setCell ⟨w3.heap.size, 2, none⟩ (.string ⟨#[]⟩) = W4 := set_same blk4 (j := 2) rfl
    have o0 : W4.cell? ⟨w3.heap.size, 0, none⟩ = some (.bool false) := blk_cell blk4 0 rfl
    have o1 : W4.cell? ⟨w3.heap.size, 1, none⟩ = some (.string ⟨ks.toArray⟩) := blk_cell blk4 1 rfl
    have o2 : W4.cell? ⟨w3.heap.size, 2, none⟩ = some (.string ⟨#[]⟩) := blk_cell blk4 2 rfl
    have O2 := blk_froz blk4 2
    have c2 := r4.cell2
    have f2 := r4.froz 2
    have gB : w.grownBy W4 (some g) := grown_trans gA (grown_of_below bel4 _)
    have HR4 := hide r4
    have HB4 := hide blk4
    clear r3 r4 blk3 blk4 gA bel4
    rcases hN with ⟨rfl, rfl, hN⟩ | ⟨rfl, hc, hN⟩ | ⟨rfl, hc, hN⟩
    · have HN := hide hN
      clear hN
      obtain ⟨V, hV⟩ : ∃ V, W4.setCell ⟨g, 2, none⟩ (.bool true) = V := ⟨_, rfl⟩
      have rV : Rdr w0 V g vb bs a3 true := by rw [← hV]; exact HR4.out.put2 true
      have bV : V.heap[w.heap.size]? = some (.cells #[.bool false, .string ⟨#[]⟩, .string ⟨#[]⟩] 81 (0, 0)) := by
        rw [← hV, Below.heap_setCell _ _ _ _ (by simp; omega)]
        exact blkR
      have gV : w.grownBy V (some g) := by rw [← hV]; exact grown_trans gB (grown_setCell _ _ _)
      obtain ⟨V', hV', bV', gV'⟩ := put3 bV (.bool false) (.string ⟨#[]⟩) (.string ⟨#[]⟩)
      have R0 : V.cell? ⟨w.heap.size, 0, none⟩ = some (.bool false) := blk_cell bV 0 rfl
      have R1 : V.cell? ⟨w.heap.size, 1, none⟩ = some (.string ⟨#[]⟩) := blk_cell bV 1 rfl
      have R2 : V.cell? ⟨w.heap.size, 2, none⟩ = some (.string ⟨#[]⟩) := blk_cell bV 2 rfl
      have F0 := blk_froz bV 0
      have F1 := blk_froz bV 1
      have F2 := blk_froz bV 2
      have k0 : V'.cell? ⟨w.heap.size, 0, none⟩ = some (.bool false) := blk_cell bV' 0 rfl
      have k1 : V'.cell? ⟨w.heap.size, 1, none⟩ = some (.string ⟨#[]⟩) := blk_cell bV' 1 rfl
      have k2 : V'.cell? ⟨w.heap.size, 2, none⟩ = some (.string ⟨#[]⟩) := blk_cell bV' 2 rfl
      have HF : Hid (Rdr w0 V' g vb bs a3 true ∧ w.grownBy V' (some g)) := ⟨rV.grown gV' (by omega) (by omega), grown_fresh gV gV' (Nat.le_refl _)⟩
      clear rV bV gV bV' gV' blkR
      go_wp2
      refine bodyPost_ret (v := .agg #[.bool false, .string ⟨#[]⟩, .string ⟨#[]⟩]) (by simp [results, Tryz.results177, go_sem, k0, k1, k2]) rfl ?_
      exact ⟨_, _, _, _, _, rfl, HF.out.1, HF.out.2, HN.out _⟩
    · have HN := hide hN
      have hc' : Om.chk false (⟨ks.toArray⟩ : ByteArray).data.toList (⟨#[]⟩ : ByteArray).data.toList = 0 := hc
      have HC := hide hc'
      clear hN hc hc'
      go_wp2_with fail
      refine (checkR_any false ⟨ks.toArray⟩ ⟨#[]⟩ _ (by rw [Lib.size_eq]; simp; omega) (by rw [Lib.size_eq]; simp)).mono ?_
      rintro E w9 ⟨rfl, bel9⟩
      rw [HC.out]
      have r9 := HR4.out.below bel9
      have blk9 := (bel9.block w3.heap.size (blk_lt HB4.out)).trans HB4.out
      have blkR9 := (bel9.block w.heap.size (blk_lt blkR)).trans blkR
      have gB9 : w.grownBy w9 (some g) := grown_trans gB (grown_of_below bel9 _)
      have p0 : w9.cell? ⟨w3.heap.size, 0, none⟩ = some (.bool false) := blk_cell blk9 0 rfl
      have p1 : w9.cell? ⟨w3.heap.size, 1, none⟩ = some (.string ⟨ks.toArray⟩) := blk_cell blk9 1 rfl
      have p2 : w9.cell? ⟨w3.heap.size, 2, none⟩ = some (.string ⟨#[]⟩) := blk_cell blk9 2 rfl
      have d2 := r9.cell2
      have h2 := r9.froz 2
      have HR9 := hide r9
      clear r9 blk9 bel9 blkR
      have bV := blkR9
      have gV := gB9
      have rV := HR9.out
      obtain ⟨V', hV', bV', gV'⟩ := put3 bV (.bool false) (.string ⟨ks.toArray⟩) (.string ⟨#[]⟩)
      have R0 : w9.cell? ⟨w.heap.size, 0, none⟩ = some (.bool false) := blk_cell bV 0 rfl
      have R1 : w9.cell? ⟨w.heap.size, 1, none⟩ = some (.string ⟨#[]⟩) := blk_cell bV 1 rfl
      have R2 : w9.cell? ⟨w.heap.size, 2, none⟩ = some (.string ⟨#[]⟩) := blk_cell bV 2 rfl
      have F0 := blk_froz bV 0
      have F1 := blk_froz bV 1
      have F2 := blk_froz bV 2
      have k0 : V'.cell? ⟨w.heap.size, 0, none⟩ = some (.bool false) := blk_cell bV' 0 rfl
      have k1 : V'.cell? ⟨w.heap.size, 1, none⟩ = some (.string ⟨ks.toArray⟩) := blk_cell bV' 1 rfl
      have k2 : V'.cell? ⟨w.heap.size, 2, none⟩ = some (.string ⟨#[]⟩) := blk_cell bV' 2 rfl
      have HF : Hid (Rdr w0 V' g vb bs a3 false ∧ w.grownBy V' (some g)) := ⟨rV.grown gV' (by omega) (by omega), grown_fresh gV gV' (Nat.le_refl _)⟩
      clear rV bV gV bV' gV' blkR9
      go_wp2
      refine bodyPost_ret (v := .agg #[.bool false, .string ⟨ks.toArray⟩, .string ⟨#[]⟩]) (by simp [results, Tryz.results177, go_sem, k0, k1, k2]) rfl ?_
      exact ⟨_, _, _, _, _, rfl, HF.out.1, HF.out.2, HN.out⟩
    · have HN := hide hN
      have hc' : Om.chk false (⟨ks.toArray⟩ : ByteArray).data.toList (⟨#[]⟩ : ByteArray).data.toList = 2 := hc
      have HC := hide hc'
      clear hN hc hc'
      go_wp2_with fail
      refine (checkR_any false ⟨ks.toArray⟩ ⟨#[]⟩ _ (by rw [Lib.size_eq]; simp; omega) (by rw [Lib.size_eq]; simp)).mono ?_
      rintro E w9 ⟨rfl, bel9⟩
      rw [HC.out]
      have r9 := HR4.out.below bel9
      have blk9 := (bel9.block w3.heap.size (blk_lt HB4.out)).trans HB4.out
      have blkR9 := (bel9.block w.heap.size (blk_lt blkR)).trans blkR
      have gB9 : w.grownBy w9 (some g) := grown_trans gB (grown_of_below bel9 _)
      have p0 : w9.cell? ⟨w3.heap.size, 0, none⟩ = some (.bool false) := blk_cell blk9 0 rfl
      have p1 : w9.cell? ⟨w3.heap.size, 1, none⟩ = some (.string ⟨ks.toArray⟩) := blk_cell blk9 1 rfl
      have p2 : w9.cell? ⟨w3.heap.size, 2, none⟩ = some (.string ⟨#[]⟩) := blk_cell blk9 2 rfl
      have d2 := r9.cell2
      have h2 := r9.froz 2
      have HR9 := hide r9
      clear r9 blk9 bel9 blkR
      obtain ⟨V, hV⟩ : ∃ V, w9.setCell ⟨g, 2, none⟩ (.bool true) = V := ⟨_, rfl⟩
      have rV : Rdr w0 V g vb bs a3 true := by rw [← hV]; exact HR9.out.put2 true
      have bV : V.heap[w.heap.size]? = some (.cells #[.bool false, .string ⟨#[]⟩, .string ⟨#[]⟩] 81 (0, 0)) := by
        rw [← hV, Below.heap_setCell _ _ _ _ (by simp; omega)]
        exact blkR9
      have gV : w.grownBy V (some g) := by rw [← hV]; exact grown_trans gB9 (grown_setCell _ _ _)
      obtain ⟨V', hV', bV', gV'⟩ := put3 bV (.bool false) (.string ⟨#[]⟩) (.string ⟨#[]⟩)
      have R0 : V.cell? ⟨w.heap.size, 0, none⟩ = some (.bool false) := blk_cell bV 0 rfl
      have R1 : V.cell? ⟨w.heap.size, 1, none⟩ = some (.string ⟨#[]⟩) := blk_cell bV 1 rfl
      have R2 : V.cell? ⟨w.heap.size, 2, none⟩ = some (.string ⟨#[]⟩) := blk_cell bV 2 rfl
      have F0 := blk_froz bV 0
      have F1 := blk_froz bV 1
      have F2 := blk_froz bV 2
      have k0 : V'.cell? ⟨w.heap.size, 0, none⟩ = some (.bool false) := blk_cell bV' 0 rfl
      have k1 : V'.cell? ⟨w.heap.size, 1, none⟩ = some (.string ⟨#[]⟩) := blk_cell bV' 1 rfl
      have k2 : V'.cell? ⟨w.heap.size, 2, none⟩ = some (.string ⟨#[]⟩) := blk_cell bV' 2 rfl
      have HF : Hid (Rdr w0 V' g vb bs a3 true ∧ w.grownBy V' (some g)) := ⟨rV.grown gV' (by omega) (by omega), grown_fresh gV gV' (Nat.le_refl _)⟩
      clear rV bV gV bV' gV' blkR9
      go_wp2
      refine bodyPost_ret (v := .agg #[.bool false, .string ⟨#[]⟩, .string ⟨#[]⟩]) (by simp [results, Tryz.results177, go_sem, k0, k1, k2]) rfl ?_
      exact ⟨_, _, _, _, _, rfl, HF.out.1, HF.out.2, HN.out _⟩

end Go.Proofs.YthmecljkackmbaaGreat

/- The contract of the document's reader's Done. -/
namespace Go.Proofs.YthmecljkackmbaaGreat
open Go.RowKit
set_option linter.unusedVariables false

set_option maxHeartbeats 400000 in
theorem rdone_any (w0 w : World) (g : Nat) (vb : Value) (bs : List Int) (a : Nat) (bad : Bool) (h : Rdr w0 w g vb bs a bad) :
    Calls Tryz.prog 178 #[.pointer (some ⟨g, 0, none⟩)] w fun E w' => E = .returned (.bool (!bad && decide (a = bs.length))) ∧ ∃ m, w' = w.drewN m := by
  have c0 := h.cell0
  have c1 := h.cell1
  have c2 := h.cell2
  obtain ⟨ao, cap, rfl, _, _⟩ := h.is.shape
  clear h
  go_enter Tryz.func178, Tryz.ntmps178
  cases bad
  · by_cases he : a = bs.length
    · have he' : ((a : Int) == (bs.length : Int)) = true := by simp [he]
      have hd : (!false && decide (a = bs.length)) = true := by simp [he]
      rw [hd]
      clear he hd
      go_wp2_with fail
      go_quiet (fail)
      go_wp2
      go_ret
      exact ⟨rfl, _, rfl⟩
    · have he' : ((a : Int) == (bs.length : Int)) = false := by simp; omega
      have hd : (!false && decide (a = bs.length)) = false := by simp [he]
      rw [hd]
      clear he hd
      go_wp2_with fail
      go_quiet (fail)
      go_wp2
      go_ret
      exact ⟨rfl, _, rfl⟩
  · rw [Bool.not_true, Bool.false_and]
    go_wp2_with fail
    go_quiet (fail)
    go_wp2
    go_ret
    exact ⟨rfl, _, rfl⟩

end Go.Proofs.YthmecljkackmbaaGreat

/- The contract of the document's Decode of a run. -/
namespace Go.Proofs.YthmecljkackmbaaGreat
open Go.RowKit
open Bm (Ov)
set_option linter.unusedVariables false

theorem Tryz.enters177 : ∀ args w, (callFunc 177 args).run Tryz.prog w = .ok (.enter 177 args) w := enters_of Tryz.func177 (by kernel_rfl) rfl

/-- What the three numbers come to. -/
theorem doc3 {bs : List Int} {x y m a1 a2 a3 : Nat} {b1 b2 b3 : Bool} (s1 : SStep bs 1048576 0 false x a1 b1) (s2 : SStep bs 1048576 a1 b1 y a2 b2) (s3 : SStep bs 1024 a2 b2 m a3 b3) :
    (x ≤ 1048576 ∧ y ≤ 1048576 ∧ m ≤ 1024) ∧ ((b3 = true ∧ Rn.No bs ∧ m = 0) ∨ (b3 = false ∧ Nr bs x y m 3 a3)) := by
  rcases s1 with ⟨h, _⟩ | ⟨_, rfl, rfl, _, h⟩ | ⟨_, rfl, h1, h2, h3⟩
  · cases h
  · rcases s2 with ⟨_, rfl, rfl, _⟩ | ⟨h, _⟩ | ⟨h, _⟩
    · rcases s3 with ⟨_, rfl, rfl, _⟩ | ⟨h, _⟩ | ⟨h, _⟩
      · exact ⟨by omega, .inl ⟨rfl, Rn.no1 (by simpa using h), rfl⟩⟩
      · cases h
      · cases h
    · cases h
    · cases h
  · rw [List.drop_zero] at h2
    have e1 : a1 = Vm.sz x := by omega
    subst e1
    rcases s2 with ⟨h, _⟩ | ⟨_, rfl, rfl, _, h⟩ | ⟨_, rfl, k1, k2, k3⟩
    · cases h
    · rcases s3 with ⟨_, rfl, rfl, _⟩ | ⟨h, _⟩ | ⟨h, _⟩
      · exact ⟨by omega, .inl ⟨rfl, Rn.no2 h2 h, rfl⟩⟩
      · cases h
      · cases h
    · subst k3
      rcases s3 with ⟨h, _⟩ | ⟨_, rfl, rfl, _, h⟩ | ⟨_, rfl, j1, j2, j3⟩
      · cases h
      · exact ⟨by omega, .inl ⟨rfl, Rn.no3 h2 k2 (Nat.le_refl _) h, rfl⟩⟩
      · exact ⟨by omega, .inr ⟨rfl, h2, k2, j2, j3, h1, k1, by omega⟩⟩

/-- In the midst of the ops. -/
def MdS (bs : List Int) (x y m a : Nat) (bad : Bool) (l : List Ov) (n : Nat) : Prop :=
  (bad = true ∧ Rn.No bs) ∨ (bad = false ∧ Nr bs x y m 3 (Vm.sz x + Vm.sz y + Vm.sz m) ∧ Rn.ens l <+: bs.drop (Vm.sz x + Vm.sz y + Vm.sz m) ∧ (∀ o ∈ l, o.c = 0) ∧ a = Vm.sz x + Vm.sz y + Vm.sz m + (Rn.ens l).length ∧ l.length + n = m)

structure MdD (bs : List Int) (w wr : World) (g bx : Nat) (vb : Value) (x y m a : Nat) (bad : Bool) (v : Value) (l : List Ov) (n : Nat) : Prop where
  rd : Rdr w wr g vb bs a bad
  gq : g = w.heap.size + 1
  bxq : g < bx
  ltq : bx < wr.heap.size
  blk : wr.heap[bx]? = some (.cells #[.int .i64 x, .int .i64 y, v] 93 (0, 0))
  r0 : wr.heap[w.heap.size]? = some (.cells #[.int .i64 0, .int .i64 0, .slice none 0 0] 93 (0, 0))
  own : OwnO 81 (bx + 1) wr v l
  st : MdS bs x y m a bad l n
  len : l.length + n ≤ 1024 ∧ x ≤ 1048576 ∧ y ≤ 1048576

/-- An op more. -/
theorem MdS.next {bs : List Int} {x y m a : Nat} {l : List Ov} {n : Nat} (h : MdS bs x y m a false l (n + 1)) {o : Ov} {a' : Nat} {bad' : Bool} (hs : NStep bs a false o.p o.kl o.vl a' bad') : MdS bs x y m a' bad' (l ++ [o]) n := by
  rcases h with ⟨h, _⟩ | ⟨_, h1, h2, h3, h4, h5⟩
  · cases h
  rcases hs with ⟨h, _⟩ | ⟨_, k, e, hr, hb, ha⟩
  · cases h
  obtain ⟨n1, n2, n3, n4⟩ := h1
  rcases hr with ⟨rfl, g1, g2, g3⟩ | ⟨rfl, _, _, _, _, hno⟩
  · have e1 : bad' = false := by simpa using hb
    have e2 := ha rfl
    refine .inr ⟨e1, ⟨n1, n2, n3, n4⟩, ?_, fun q hq => ?_, ?_, by rw [List.length_append, List.length_singleton]; omega⟩
    · rw [Rn.ens_snoc, Bm.pre_app, List.drop_drop, ← h4]
      exact ⟨h2, g2⟩
    · rcases List.mem_append.1 hq with hq | hq
      · exact h3 q hq
      · rw [List.mem_singleton.1 hq]; exact g1
    · rw [Rn.ens_snoc, List.length_append]
      omega
  · have e1 : bad' = true := by simpa using hb
    refine .inl ⟨e1, Rn.no4 n1 n2 n3 h2 h3 (by omega) fun q hq hp => ?_⟩
    rw [h4] at hno
    exact hno q.p q.kl q.vl hq hp

theorem MdS.fin {bs : List Int} {x y m a : Nat} {l : List Ov} (h : MdS bs x y m a false l 0) : RdR bs x y l a 0 := by
  rcases h with ⟨h, _⟩ | ⟨_, h1, h2, h3, h4, h5⟩
  · cases h
  · have e : l.length = m := by omega
    subst e
    obtain ⟨n1, n2, n3, _, n5, n6, n7⟩ := h1
    exact .inr ⟨rfl, x, y, rfl, rfl, n5, n6, n7, n1, n2, n3, h2, h3, by rw [h4]⟩

theorem MdS.no {bs : List Int} {x y m a n : Nat} {l : List Ov} (h : MdS bs x y m a true l n) : Rn.No bs := by
  rcases h with ⟨_, h⟩ | ⟨h, _⟩
  · exact h
  · cases h

set_option maxRecDepth 20000 in
set_option maxHeartbeats 4000000 in
theorem hdecR_any (vb : Value) (bs : List Int) (w : World) (hb : Is .u8 w vb bs) (hl : bs.length ≤ 140737488355328) :
    Calls Tryz.prog 133 #[vb] w fun E w' => ∃ (x y g : Int) (v : Value) (l : List Ov), E = .returned (.tuple #[cmv x y v, .int .i64 g]) ∧ OwnO 81 w.heap.size w' v l ∧ Hid (Rn.Dc bs x y l g) ∧ Below w.heap.size w w' := by
  unfold cmv
  obtain ⟨w1, hw1, sz1, bel1, hR1⟩ := blk_step w #[.int .i64 0, .int .i64 0, .slice none 0 0] 93
  obtain ⟨w2, hw2, sz2, bel2, hG2⟩ := blk_step w1 #[vb, .int .i64 0, .bool false] 204
  rw [sz1] at hG2
  have R2 : Rdr w w2 (w.heap.size + 1) vb bs 0 false := ⟨hb, by omega, bel1.trans (bel2.mono (by omega)), hG2, by omega⟩
  have hR2 := (bel2.block _ (blk_lt hR1)).trans hR1
  obtain ⟨ao, cap, hvb, _, _⟩ := hb.shape
  subst hvb
  clear hb hR1 hG2 bel1 bel2
  go_enter Tryz.func133, Tryz.ntmps133
  go_wp2_with fail
  refine (rsmall_any w _ _ _ bs 0 false 1048576 R2 (by omega) (by omega)).mono ?_
  rintro E w3 ⟨x, a1, b1, rfl, R3, gr3, s1⟩
  have hR3 := (gr3.block _ (blk_lt hR2) (by simp)).trans hR2
  have sz3 := gr3.size
  clear gr3 R2 hR2
  go_wp2_with fail
  refine (rsmall_any w _ _ _ bs a1 b1 1048576 R3 (by omega) (by omega)).mono ?_
  rintro E w4 ⟨y, a2, b2, rfl, R4, gr4, s2⟩
  have hR4 := (gr4.block _ (blk_lt hR3) (by simp)).trans hR3
  have sz4 := gr4.size
  obtain ⟨w5, hw5, hw5', sz5, bel5, b5, x0, x1, x2⟩ := new_step w4 93 (.int .i64 0) (.int .i64 0) (.slice none 0 0) (.int .i64 x) (.int .i64 y) (.slice none 0 0)
  have R5 := R4.below bel5
  have hR5 := (bel5.block _ (blk_lt hR4)).trans hR4
  have fz5 := blk_froz b5 2
  have ss5 : w5.setCell ⟨w4.heap.size, 2, none⟩ (.slice none 0 0) = w5 := set_same b5 (j := 2) rfl
  clear gr4 R3 R4 hR3 hR4 bel5
  go_wp2_with fail
  refine (rsmall_any w _ _ _ bs a2 b2 1024 R5 (by omega) (by omega)).mono ?_
  rintro E w6 ⟨m, a3, b3, rfl, R6, gr6, s3⟩
  obtain ⟨hbd, hst⟩ := doc3 s1 s2 s3
  have sz6 := gr6.size
  have M6 : Hid (MdD bs w w6 (w.heap.size + 1) w4.heap.size (.slice ao bs.length cap) x y m a3 b3 (.slice none 0 0) [] m) := hide ⟨R6, rfl, by omega, by omega, (gr6.block _ (by omega) (by simp; omega)).trans b5, (gr6.block _ (blk_lt hR5) (by simp)).trans hR5, OwnO.nil _ _ _, by
    rcases hst with ⟨h1, h2, _⟩ | ⟨h1, h2⟩
    · exact .inl ⟨h1, h2⟩
    · have ha : a3 = Vm.sz x + Vm.sz y + Vm.sz m := h2.2.2.2.1
      exact .inr ⟨h1, by rw [← ha]; exact h2, by simp [Rn.ens], by simp, by simp [Rn.ens]; exact ha, by simp⟩, by simp; omega⟩
  have szb : w.heap.size + 2 ≤ w4.heap.size := by omega
  have hm4 := hbd.2.2
  clear R5 R6 hR5 b5 gr6 s1 s2 s3 hst x0 x1 x2 hw5 hw5' fz5 ss5
  go_wp2
  go_loopw [6] (fun nn wr => ∃ (n a : Nat) (bad : Bool) (v : Value) (l : List Ov), n ≤ 1024 ∧ nn = .int .i64 n ∧ Hid (MdD bs w wr (w.heap.size + 1) w4.heap.size (.slice ao bs.length cap) x y m a bad v l n)) (fun nn _ => (intOf nn).toNat)
  case atStart => exact ⟨m, a3, b3, _, [], by omega, rfl, M6⟩
  case round =>
    clear M6
    obtain ⟨n, a, bad, v, l, hn, rfl, M⟩ := hrel
    have g2 := M.out.rd.cell2
    have szr := M.out.ltq
    obtain ⟨av, nv, kv, hvv⟩ : ∃ a n k, v = .slice a n k := by
      obtain ⟨a1, k1, h1, _⟩ := M.out.own.is.shape
      exact ⟨a1, _, k1, h1⟩
    subst hvv
    by_cases hgo : 0 < n ∧ bad = false
    · obtain ⟨hn0, rfl⟩ := hgo
      have hn0' : (0 : Int) < n := by omega
      obtain ⟨j, rfl⟩ : ∃ j, n = j + 1 := ⟨n - 1, by omega⟩
      have hB := M.out.blk
      have c2 : wr.cell? ⟨w4.heap.size, 2, none⟩ = some (.slice av nv kv) := blk_cell hB 2 rfl
      have X1 : Hid (Calls Tryz.prog 177 #[.pointer (some ⟨w.heap.size + 1, 0, none⟩)] wr.drew fun E w' => ∃ v', E = .returned v' ∧ ∃ (p : Bool) (ky vl : ByteArray) (V : World), v' = .agg #[.bool p, .string ky, .string vl] ∧ w'.cell? ⟨w4.heap.size, 2, none⟩ = some (.slice av nv kv) ∧ w'.alloc (.cells #[.bool p, .string ky, .string vl] 81) = V ∧ V.cell? ⟨w4.heap.size, 2, none⟩ = some (.slice av nv kv) ∧
          Hid (∀ ty, ∃ v2 w2, (Builtin.append_ #[53, 53] ty #[.slice av nv kv, .slice (some ⟨w'.heap.size, 0, none⟩) 1 1]).run Tryz.prog V = .ok v2 w2 ∧ (∃ (a' : Nat) (bad' : Bool) (l' : List Ov), MdD bs w (w2.setCell ⟨w4.heap.size, 2, none⟩ v2) (w.heap.size + 1) w4.heap.size (.slice ao bs.length cap) x y m a' bad' v2 l' j) ∧ w2.cell? ⟨w4.heap.size, 2, none⟩ = some (.slice av nv kv) ∧ w2.frozen? ⟨w4.heap.size, 2, none⟩ = false ∧ ∃ a n c, v2 = .slice a n c)) := hide (by
        have hM := M.out
        have rd' : Rdr w wr.drew (w.heap.size + 1) (.slice ao bs.length cap) bs a false := hM.rd.below ((Below.refl _ _).drew)
        refine (onext_any w wr.drew (w.heap.size + 1) _ bs a false rd' hl).mono ?_
        rintro E w7 ⟨p, ky, vl, a', bad', rfl, R7, gr7, hs⟩
        have hgx := hM.bxq
        have hB7 := (gr7.block w4.heap.size (show w4.heap.size < wr.drew.heap.size from hM.ltq) (by simp; omega)).trans (show wr.drew.heap[w4.heap.size]? = _ from hM.blk)
        have h07 := (gr7.block w.heap.size (show w.heap.size < wr.drew.heap.size from blk_lt hM.r0) (by simp)).trans (show wr.drew.heap[w.heap.size]? = _ from hM.r0)
        have ow7 : OwnO 81 (w4.heap.size + 1) w7 (.slice av nv kv) l := OwnO.keptg (show OwnO 81 (w4.heap.size + 1) wr.drew (.slice av nv kv) l from hM.own.below ((Below.refl _ _).drew)) gr7 (by omega)
        have sz7 : wr.heap.size ≤ w7.heap.size := gr7.size
        obtain ⟨V, hV, szV, belV, ownV⟩ := ops_step 81 w7 #[.bool p, .string ky, .string vl] 1 [⟨p, ky, vl⟩] rfl rfl (by simp [maxLen])
        have BV := (belV.block _ (blk_lt hB7)).trans hB7
        refine ⟨_, rfl, p, ky, vl, V, rfl, blk_cell hB7 2 rfl, hV, blk_cell BV 2 rfl, hide fun ty => ?_⟩
        obtain ⟨v2, w2, hr, own2, gr2, at2⟩ := run_append_ops_at (P := Tryz.prog) (w := V) 53 ty 81 (w4.heap.size + 1) Tryz.underlying53 Tryz.info81 _ l (ow7.below belV) _ [⟨p, ky, vl⟩] ownV.is (by have := hM.len.1; simp; omega) (by omega)
        have hne : ∀ g, g ≤ w4.heap.size → (Value.slice av nv kv).ownBlock ≠ some g := fun g hg e => by have := (hM.own.block g e).1; omega
        have B2 := (gr2.block _ (blk_lt BV) (fun e => hne _ (Nat.le_refl _) e.symm)).trans BV
        have R2 : Rdr w w2 (w.heap.size + 1) (.slice ao bs.length cap) bs a' bad' := by
          have RV := R7.below belV
          refine ⟨RV.1, RV.2.1, ?_, ?_, RV.2.2.2.2⟩
          · exact RV.2.2.1.grown gr2 RV.2.2.1.size (fun k hk => by have := (hM.own.block k hk).1; omega)
          · exact (gr2.block _ RV.lt (fun e => hne _ (by omega) e.symm)).trans RV.2.2.2.1
        have h02 := (gr2.block _ (blk_lt ((belV.block _ (blk_lt h07)).trans h07)) (fun e => hne _ (by omega) e.symm)).trans ((belV.block _ (blk_lt h07)).trans h07)
        obtain ⟨X, hX, bX, gX, fX⟩ := put_at3 B2 2 v2
        have szX : V.heap.size ≤ X.heap.size := Nat.le_trans gr2.size gX.size
        refine ⟨v2, w2, hr, ⟨a', bad', l ++ [⟨p, ky, vl⟩], ?_⟩, blk_cell B2 2 rfl, fX, ?_⟩
        · rw [hX]
          refine ⟨?_, rfl, hgx, by omega, bX, (gX.block _ (blk_lt h02) (by simp; omega)).trans h02, own2.keptg gX (by omega), hM.st.next hs, ?_⟩
          · refine ⟨R2.1, R2.2.1, below_put R2.2.2.1 gX (by omega) R2.2.2.1.size, (gX.block _ R2.lt (by simp; omega)).trans R2.2.2.2.1, R2.2.2.2.2⟩
          · have := hM.len
            rw [List.length_append, List.length_singleton]
            omega
        · obtain ⟨a1, k1, h1, _⟩ := own2.is.shape
          exact ⟨a1, _, k1, h1⟩)
      have hsub : ((j + 1 : Nat) : Int) - 1 = (j : Int) := by omega
      have hjw : IntKind.i64.wrap (j : Int) = (j : Int) := wrap_i64_small _ (by omega) (by omega)
      clear M hB hn0
      go_wp2_with fail
      go_region_law (first
        | (have ow := XX; refine step_append_at rfl (.tmp 29) (.tmp 32) 53 rfl (.slice av nv kv) (.slice (some ⟨w7.heap.size, 0, none⟩) 1 1) (by first | (simp [Act.eval]; done) | (simp [Act.eval, Act.put]; done)) (by first | (simp [Act.eval]; done) | (simp [Act.eval, Act.put]; done)) XX.out ?_; rintro v8 w8 ⟨J, d8, g8, a8, n8, k8, rfl⟩; have J := hide J)
        | (refine call_at rfl 177 #[.tmp 30] #[202] rfl Tryz.enters177 #[.pointer (some ⟨w.heap.size + 1, 0, none⟩)] (by first | (simp [Act.eval]; done) | (simp [Act.eval, Act.put]; done)) X1.out ?_; rintro v6 w7 ⟨p, ky, vl, V, rfl, d7, hV, v5, XX⟩))
      all_goals
        obtain ⟨a', bad', l', J'⟩ := J.out
        have JJ := hide J'
        clear J' J
        go_wp2
        go_roundw
        case rel => exact ⟨j, a', bad', _, l', by omega, by go_num, JJ⟩
        case measure => simp [intOf]
    · cases bad with
      | true =>
        by_cases hn0 : n = 0
        · have hn0' : ¬ (0 : Int) < n := by omega
          go_wp2_with fail
          refine (rdone_any w wr _ _ bs a true M.out.rd).mono ?_
          rintro E w8 ⟨rfl, q, rfl⟩
          rw [Bool.not_true, Bool.false_and]
          have DC : Hid (Rn.Dc bs 0 0 [] 5) := hide (.inr ⟨rfl, rfl, rfl, rfl, M.out.st.no⟩)
          have B0 : (wr.drewN q).heap[w.heap.size]? = some (.cells #[.int .i64 0, .int .i64 0, .slice none 0 0] 93 (0, 0)) := M.out.r0
          obtain ⟨z0, z1, z2⟩ : (wr.drewN q).cell? ⟨w.heap.size, 0, none⟩ = some (.int .i64 0) ∧ (wr.drewN q).cell? ⟨w.heap.size, 1, none⟩ = some (.int .i64 0) ∧ (wr.drewN q).cell? ⟨w.heap.size, 2, none⟩ = some (.slice none 0 0) := ⟨blk_cell B0 0 rfl, blk_cell B0 1 rfl, blk_cell B0 2 rfl⟩
          have s0 : (wr.drewN q).setCell ⟨w.heap.size, 0, none⟩ (.int .i64 0) = (wr.drewN q) := set_same B0 (j := 0) rfl
          have s1 : (wr.drewN q).setCell ⟨w.heap.size, 1, none⟩ (.int .i64 0) = (wr.drewN q) := set_same B0 (j := 1) rfl
          have s2 : (wr.drewN q).setCell ⟨w.heap.size, 2, none⟩ (.slice none 0 0) = (wr.drewN q) := set_same B0 (j := 2) rfl
          have f0 := blk_froz B0 0; have f1 := blk_froz B0 1; have f2 := blk_froz B0 2
          have BEL : Below w.heap.size w (wr.drewN q) := below_drewN M.out.rd.2.2.1 q
          clear B0 M
          go_wp2
          refine bodyPost_ret (v := .tuple #[.agg #[.int .i64 0, .int .i64 0, .slice none 0 0], .int .i64 5]) (by simp [results, Tryz.results133, go_sem, z0, z1, z2]) rfl ?_
          first | exact ⟨0, 0, 5, _, [], rfl, OwnO.nil _ _ _, DC, BEL⟩ | exact ⟨0, 0, 5, _, rfl, [], OwnO.nil _ _ _, DC, BEL⟩
        · have hn0' : (0 : Int) < n := by omega
          go_wp2_with fail
          refine (rdone_any w wr _ _ bs a true M.out.rd).mono ?_
          rintro E w8 ⟨rfl, q, rfl⟩
          rw [Bool.not_true, Bool.false_and]
          have DC : Hid (Rn.Dc bs 0 0 [] 5) := hide (.inr ⟨rfl, rfl, rfl, rfl, M.out.st.no⟩)
          have B0 : (wr.drewN q).heap[w.heap.size]? = some (.cells #[.int .i64 0, .int .i64 0, .slice none 0 0] 93 (0, 0)) := M.out.r0
          obtain ⟨z0, z1, z2⟩ : (wr.drewN q).cell? ⟨w.heap.size, 0, none⟩ = some (.int .i64 0) ∧ (wr.drewN q).cell? ⟨w.heap.size, 1, none⟩ = some (.int .i64 0) ∧ (wr.drewN q).cell? ⟨w.heap.size, 2, none⟩ = some (.slice none 0 0) := ⟨blk_cell B0 0 rfl, blk_cell B0 1 rfl, blk_cell B0 2 rfl⟩
          have s0 : (wr.drewN q).setCell ⟨w.heap.size, 0, none⟩ (.int .i64 0) = (wr.drewN q) := set_same B0 (j := 0) rfl
          have s1 : (wr.drewN q).setCell ⟨w.heap.size, 1, none⟩ (.int .i64 0) = (wr.drewN q) := set_same B0 (j := 1) rfl
          have s2 : (wr.drewN q).setCell ⟨w.heap.size, 2, none⟩ (.slice none 0 0) = (wr.drewN q) := set_same B0 (j := 2) rfl
          have f0 := blk_froz B0 0; have f1 := blk_froz B0 1; have f2 := blk_froz B0 2
          have BEL : Below w.heap.size w (wr.drewN q) := below_drewN M.out.rd.2.2.1 q
          clear B0 M
          go_wp2
          refine bodyPost_ret (v := .tuple #[.agg #[.int .i64 0, .int .i64 0, .slice none 0 0], .int .i64 5]) (by simp [results, Tryz.results133, go_sem, z0, z1, z2]) rfl ?_
          first | exact ⟨0, 0, 5, _, [], rfl, OwnO.nil _ _ _, DC, BEL⟩ | exact ⟨0, 0, 5, _, rfl, [], OwnO.nil _ _ _, DC, BEL⟩
      | false =>
        obtain rfl : n = 0 := Nat.eq_zero_of_not_pos fun h => hgo ⟨h, rfl⟩
        go_wp2_with fail
        refine (rdone_any w wr _ _ bs a false M.out.rd).mono ?_
        rintro E w8 ⟨rfl, q, rfl⟩
        obtain ⟨t1, t2, t3, t4, t5, t6, t7⟩ := M.out.st.fin.good
        have T6 := hide t6
        have T7 := hide t7
        have T1 := hide t1
        clear t1 t6 t7
        rw [Bool.not_false, Bool.true_and]
        by_cases ha : a = bs.length
        · rw [decide_eq_true ha]
          have HA := hide ha
          clear ha
          have hB : (wr.drewN q).heap[w4.heap.size]? = some (.cells #[.int .i64 x, .int .i64 y, .slice av nv kv] 93 (0, 0)) := M.out.blk
          have e0 := blk_cell hB 0 rfl
          have e1 := blk_cell hB 1 rfl
          have e2 := blk_cell hB 2 rfl
          have OQ : OwnO 81 (w4.heap.size + 1) (wr.drewN q) (.slice av nv kv) l := M.out.own.below (below_drewN (Below.refl _ _) q)
          have HC := hide (hcheckR_any x y (.slice av nv kv) l (wr.drewN q) OQ.is (fit_c T1.out) (by omega))
          unfold cmv at HC
          obtain ⟨ck, hck⟩ : ∃ c, Rn.chk x y l = c := ⟨_, rfl⟩
          rw [hck] at HC
          have HCK := hide hck
          clear hck
          obtain ⟨wq, hwq⟩ : ∃ W, wr.drewN q = W := ⟨_, rfl⟩
          rw [hwq] at hB e0 e1 e2 OQ HC ⊢
          have B9 : wq.heap[w.heap.size]? = some (.cells #[.int .i64 0, .int .i64 0, .slice none 0 0] 93 (0, 0)) := by rw [← hwq]; exact M.out.r0
          have bel9 : Below w.heap.size w wq := by rw [← hwq]; exact below_drewN M.out.rd.2.2.1 q
          clear hwq
          go_wp2_with fail
          refine HC.out.mono ?_
          rintro E wz ⟨rfl, belz⟩
          have B0 := (belz.block _ (blk_lt B9)).trans B9
          have C0 := (belz.block _ (blk_lt hB)).trans hB
          have OZ := OQ.below belz
          have BELZ := bel9.trans (belz.mono bel9.size)
          have hltz : w4.heap.size < wz.heap.size := blk_lt C0
          clear hB e0 e1 e2 OQ B9 bel9 belz HC
          by_cases hc0 : ck = 0
          · subst hc0
            have DC := hide (T6.out ⟨by have := HA.out; omega, HCK.out⟩)
            obtain ⟨V, hV, bV, gV, ⟨z0, z1, z2⟩, ⟨f0, f1, f2⟩, ⟨r0, r1, r2⟩⟩ := res_step B0 (.int .i64 x) (.int .i64 y) (.slice av nv kv)
            have y0 := blk_cell C0 0 rfl
            have y1 := blk_cell C0 1 rfl
            have y2 := blk_cell C0 2 rfl
            have OV := hide ((OZ.keptg gV (by omega)).rebase (base' := w.heap.size) (by omega))
            have BV := hide (below_put BELZ gV (Nat.le_refl _) BELZ.size)
            clear B0 C0 bV gV OZ BELZ M T6 T7
            go_wp2
            refine bodyPost_ret (v := .tuple #[.agg #[.int .i64 x, .int .i64 y, .slice av nv kv], .int .i64 0]) (by simp [results, Tryz.results133, go_sem, r0, r1, r2]) rfl ?_
            first | exact ⟨x, y, 0, _, l, rfl, OV.out, DC, BV.out⟩ | exact ⟨x, y, 0, _, rfl, l, OV.out, DC, BV.out⟩
          · have DC : Hid (Rn.Dc bs 0 0 [] 5) := hide (.inr ⟨rfl, rfl, rfl, rfl, T7.out fun h => hc0 (by rw [← HCK.out]; exact h.2)⟩)
            have hcb : (ck != 0) = true := by simp [hc0]
            obtain ⟨z0, z1, z2⟩ : wz.cell? ⟨w.heap.size, 0, none⟩ = some (.int .i64 0) ∧ wz.cell? ⟨w.heap.size, 1, none⟩ = some (.int .i64 0) ∧ wz.cell? ⟨w.heap.size, 2, none⟩ = some (.slice none 0 0) := ⟨blk_cell B0 0 rfl, blk_cell B0 1 rfl, blk_cell B0 2 rfl⟩
            have s0 : wz.setCell ⟨w.heap.size, 0, none⟩ (.int .i64 0) = wz := set_same B0 (j := 0) rfl
            have s1 : wz.setCell ⟨w.heap.size, 1, none⟩ (.int .i64 0) = wz := set_same B0 (j := 1) rfl
            have s2 : wz.setCell ⟨w.heap.size, 2, none⟩ (.slice none 0 0) = wz := set_same B0 (j := 2) rfl
            have f0 := blk_froz B0 0; have f1 := blk_froz B0 1; have f2 := blk_froz B0 2
            have BEL := BELZ
            clear B0 C0 OZ M T6 T7
            go_wp2
            refine bodyPost_ret (v := .tuple #[.agg #[.int .i64 0, .int .i64 0, .slice none 0 0], .int .i64 5]) (by simp [results, Tryz.results133, go_sem, z0, z1, z2]) rfl ?_
            first | exact ⟨0, 0, 5, _, [], rfl, OwnO.nil _ _ _, DC, BEL⟩ | exact ⟨0, 0, 5, _, rfl, [], OwnO.nil _ _ _, DC, BEL⟩
        · rw [decide_eq_false ha]
          have DC : Hid (Rn.Dc bs 0 0 [] 5) := hide (.inr ⟨rfl, rfl, rfl, rfl, T7.out fun h => ha (by have := h.1; omega)⟩)
          have B0 : (wr.drewN q).heap[w.heap.size]? = some (.cells #[.int .i64 0, .int .i64 0, .slice none 0 0] 93 (0, 0)) := M.out.r0
          obtain ⟨z0, z1, z2⟩ : (wr.drewN q).cell? ⟨w.heap.size, 0, none⟩ = some (.int .i64 0) ∧ (wr.drewN q).cell? ⟨w.heap.size, 1, none⟩ = some (.int .i64 0) ∧ (wr.drewN q).cell? ⟨w.heap.size, 2, none⟩ = some (.slice none 0 0) := ⟨blk_cell B0 0 rfl, blk_cell B0 1 rfl, blk_cell B0 2 rfl⟩
          have s0 : (wr.drewN q).setCell ⟨w.heap.size, 0, none⟩ (.int .i64 0) = (wr.drewN q) := set_same B0 (j := 0) rfl
          have s1 : (wr.drewN q).setCell ⟨w.heap.size, 1, none⟩ (.int .i64 0) = (wr.drewN q) := set_same B0 (j := 1) rfl
          have s2 : (wr.drewN q).setCell ⟨w.heap.size, 2, none⟩ (.slice none 0 0) = (wr.drewN q) := set_same B0 (j := 2) rfl
          have f0 := blk_froz B0 0; have f1 := blk_froz B0 1; have f2 := blk_froz B0 2
          have BEL : Below w.heap.size w (wr.drewN q) := below_drewN M.out.rd.2.2.1 q
          clear B0 M
          go_wp2
          refine bodyPost_ret (v := .tuple #[.agg #[.int .i64 0, .int .i64 0, .slice none 0 0], .int .i64 5]) (by simp [results, Tryz.results133, go_sem, z0, z1, z2]) rfl ?_
          first | exact ⟨0, 0, 5, _, [], rfl, OwnO.nil _ _ _, DC, BEL⟩ | exact ⟨0, 0, 5, _, rfl, [], OwnO.nil _ _ _, DC, BEL⟩

end Go.Proofs.YthmecljkackmbaaGreat
