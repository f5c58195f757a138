/- Texts of one layer, one behind the other. -/
import Derived.Test.YtmmfakpphjjjfaaGreatG7
import Derived.Test.YtmmfakpphjjjfaaGreatG1
import Derived.Test.YtmmfakpphjjjfaaGreatG5
import Derived.Test.YtmmfakpphjjjfaaGreatG12
import Derived.Test.YtmmfakpphjjjfaaGreatG6
/- The contracts of the document's reader: Small, Bytes. -/
namespace Go.Proofs.YtmmfakpphjjjfaaGreat
open Go.RowKit
set_option linter.unusedVariables false

theorem Tryz.elemB : Tryz.prog.underlying 66 = some (.slice (Tryz.prog.elem 66)) := by kernel_rfl
theorem Tryz.sizeE (wx : World) : (sizeOf (Tryz.prog.elem 66)).run Tryz.prog wx = .ok 1 wx := by kernel_rfl

def Rdr (w0 w : World) (g : Nat) (vb : Value) (bs : List Int) (a : Nat) (bad : Bool) : Prop :=
 Is .u8 w0 vb bs ∧ w0.heap.size ≤ g ∧ Below w0.heap.size w0 w ∧ w.heap[g]? = some (.cells #[vb, .int .i64 a, .bool bad] 151 (0, 0)) ∧ a ≤ bs.length

theorem Rdr.lt {w0 w : World} {g a : Nat} {vb : Value} {bs : List Int} {bad : Bool} (h : Rdr w0 w g vb bs a bad) : g < w.heap.size := by
 rcases Nat.lt_or_ge g w.heap.size with h' | h'
 ·exact h'
 ·have := h.2.2.2.1
  simp [Array.getElem?_eq_none h'] at this

theorem Rdr.is {w0 w : World} {g a : Nat} {vb : Value} {bs : List Int} {bad : Bool} (h : Rdr w0 w g vb bs a bad) : Is .u8 w vb bs := h.1.below h.2.2.1

theorem Rdr.below {w0 w w' : World} {g a : Nat} {vb : Value} {bs : List Int} {bad : Bool} (h : Rdr w0 w g vb bs a bad) (hb : Below w.heap.size w w') : Rdr w0 w' g vb bs a bad := by
 have hl := h.lt
 have hs := h.2.2.1.size
 exact ⟨h.1, h.2.1, h.2.2.1.trans (hb.mono hs), (hb.block g hl).trans h.2.2.2.1, h.2.2.2.2⟩

theorem Rdr.cell0 {w0 w : World} {g a : Nat} {vb : Value} {bs : List Int} {bad : Bool} (h : Rdr w0 w g vb bs a bad) : w.cell? ⟨g, 0, none⟩ = some vb := by simp [World.cell?, h.2.2.2.1]
theorem Rdr.cell1 {w0 w : World} {g a : Nat} {vb : Value} {bs : List Int} {bad : Bool} (h : Rdr w0 w g vb bs a bad) : w.cell? ⟨g, 1, none⟩ = some (.int .i64 a) := by simp [World.cell?, h.2.2.2.1]
theorem Rdr.cell2 {w0 w : World} {g a : Nat} {vb : Value} {bs : List Int} {bad : Bool} (h : Rdr w0 w g vb bs a bad) : w.cell? ⟨g, 2, none⟩ = some (.bool bad) := by simp [World.cell?, h.2.2.2.1]
theorem Rdr.froz {w0 w : World} {g a : Nat} {vb : Value} {bs : List Int} {bad : Bool} (h : Rdr w0 w g vb bs a bad) (j : Nat) : w.frozen? ⟨g, j, none⟩ = false := by simp [World.frozen?, h.2.2.2.1]

theorem Rdr.put1 {w0 w : World} {g a : Nat} {vb : Value} {bs : List Int} {bad : Bool} (h : Rdr w0 w g vb bs a bad) (a' : Nat) (ha : a' ≤ bs.length) : Rdr w0 (w.setCell ⟨g, 1, none⟩ (.int .i64 a')) g vb bs a' bad :=
 ⟨h.1, h.2.1, h.2.2.1.setCell (p := ⟨g, 1, none⟩) h.2.1 _, by rw [set_cells h.2.2.2.1]; rfl, ha⟩
theorem Rdr.put2 {w0 w : World} {g a : Nat} {vb : Value} {bs : List Int} {bad : Bool} (h : Rdr w0 w g vb bs a bad) (bad' : Bool) : Rdr w0 (w.setCell ⟨g, 2, none⟩ (.bool bad')) g vb bs a bad' :=
 ⟨h.1, h.2.1, h.2.2.1.setCell (p := ⟨g, 2, none⟩) h.2.1 _, by rw [set_cells h.2.2.2.1]; rfl, h.2.2.2.2⟩

def SStep (bs : List Int) (most a : Nat) (bad : Bool) (u a' : Nat) (bad' : Bool) : Prop :=
 (bad = true ∧ bad' = true ∧ u = 0 ∧ a' = a) ∨ (bad = false ∧ bad' = true ∧ u = 0 ∧ a' = a ∧ ∀ x : Nat, x ≤ most → ¬ Vm.enc x <+: bs.drop a) ∨ (bad = false ∧ bad' = false ∧ u ≤ most ∧ Vm.enc u <+: bs.drop a ∧ a' = a + Vm.sz u)

def BStep (bs : List Int) (n a : Nat) (bad : Bool) (zs : List Int) (a' : Nat) (bad' : Bool) : Prop :=
 ((bad = true ∨ bs.length - a < n) ∧ bad' = true ∧ zs = [] ∧ a' = a) ∨ (bad = false ∧ n ≤ bs.length - a ∧ bad' = false ∧ zs = (bs.drop a).take n ∧ a' = a + n)

set_option maxHeartbeats 400000 in
theorem rsmall_any (w0 w : World) (g : Nat) (vb : Value) (bs : List Int) (a : Nat) (bad : Bool) (most : Nat) (h : Rdr w0 w g vb bs a bad) (hl : bs.length ≤ 150000000000000) (hm : most < 9223372036854775808) :
  Calls Tryz.prog 114 #[.pointer (some ⟨g, 0, none⟩), .int .i64 most] w fun E w' => ∃ (u a' : Nat) (bad' : Bool), E = .returned (.int .i64 u) ∧ Rdr w0 w' g vb bs a' bad' ∧ w.grownBy w' (some g) ∧ SStep bs most a bad u a' bad' := by
 have c0 := h.cell0
 have c1 := h.cell1
 have c2 := h.cell2
 have ha := h.2.2.2.2
 cases bad
 ·obtain ⟨vs, hsl, isl⟩ := h.is.slice_l Tryz.elemB Tryz.sizeE a ha
  obtain ⟨u, i, e, hS⟩ := sres_is (bs.drop a) most
  have hdl : (bs.drop a).length = bs.length - a := by rw [List.length_drop]
  rcases hS with ⟨hR, h1, h2, he⟩ | ⟨hu, hi, he, x, n, f, hR, hcase⟩
  ·have hbd := Vm.res_bounds hR
   obtain ⟨un, rfl⟩ : ∃ un : Nat, u = un := ⟨u.toNat, by omega⟩
   obtain ⟨n, rfl⟩ : ∃ n : Nat, i = n := ⟨i.toNat, by omega⟩
   have hG : SStep bs most a false un (a + n) false := by
    rcases hR with ⟨x, hx, hp, h3, h4, _⟩ | ⟨_, _, _, h5⟩
    ·have : x = un := by omega
     subst this
     exact .inr (.inr ⟨rfl, rfl, by omega, hp, by omega⟩)
    ·simp at h5
   have hS : SRes (bs.drop a) most un n 0 := .inl ⟨hR, h1, h2, rfl⟩
   have HG := hide hG
   have HS := hide hS
   have HH := hide h
   have hn1 : a + n ≤ bs.length := by omega
   have hn2 : n ≤ 10 := by omega
   clear hS hG hR hbd h he h1 h2
   go_enter Tryz.func114, Tryz.ntmps114
   go_wp2_with fail
   go_region_with (go_at_call 151; refine (smallR_any _ (bs.drop a) most un n 0 _ (isl.drewN 1) (by omega) (by omega) (by omega) HS.out).mono ?_; rintro E w1 ⟨rfl, bel1'⟩; have bel1 : Below w.heap.size w w1 := ((Below.refl _ _).drew).trans bel1'; have hr := HH.out.below bel1; have k1 := hr.cell1; have f1 := hr.froz 1; have HR := hide hr; clear hr bel1')
   all_goals
    clear isl hsl
    go_wp2
    go_ret
    exact ⟨un, a + n, false, rfl, HR.out.put1 (a + n) hn1, grown_trans (grown_of_below bel1 _) (grown_setCell _ _ _), HG.out⟩
  ·have hG : SStep bs most a false 0 a true := by
    refine .inr (.inl ⟨rfl, rfl, rfl, rfl, fun y hy hp => ?_⟩)
    have := Vm.res_good hR (u := y) (by omega) hp
    omega
   have hS : SRes (bs.drop a) most 0 0 5 := .inr ⟨rfl, rfl, rfl, x, n, f, hR, hcase⟩
   have HG := hide hG
   have HS := hide hS
   have HH := hide h
   clear hS hG hR h he hcase hu hi
   go_enter Tryz.func114, Tryz.ntmps114
   go_wp2_with fail
   go_region_with (go_at_call 151; refine (smallR_any _ (bs.drop a) most 0 0 5 _ (isl.drewN 1) (by omega) (by omega) (by omega) HS.out).mono ?_; rintro E w1 ⟨rfl, bel1'⟩; have bel1 : Below w.heap.size w w1 := ((Below.refl _ _).drew).trans bel1'; have hr := HH.out.below bel1; have k1 := hr.cell2; have f1 := hr.froz 2; have HR := hide hr; clear hr bel1')
   all_goals
    clear isl hsl
    go_wp2
    go_ret
    exact ⟨0, a, true, rfl, HR.out.put2 true, grown_trans (grown_of_below bel1 _) (grown_setCell _ _ _), HG.out⟩
 ·have HH := hide h
  clear h
  go_enter Tryz.func114, Tryz.ntmps114
  go_wp2
  go_ret
  exact ⟨0, a, true, rfl, HH.out, World.grownBy.refl _ _, .inl ⟨rfl, rfl, rfl, rfl⟩⟩

set_option maxHeartbeats 400000 in
theorem rbytes_any (w0 w : World) (g : Nat) (vb : Value) (bs : List Int) (a : Nat) (bad : Bool) (n : Nat) (h : Rdr w0 w g vb bs a bad) (hl : bs.length ≤ 150000000000000) (hm : n < 9223372036854775808) :
  Calls Tryz.prog 113 #[.pointer (some ⟨g, 0, none⟩), .int .i64 n] w fun E w' => ∃ (v : Value) (zs : List Int) (a' : Nat) (bad' : Bool), E = .returned v ∧ Own .u8 5 w.heap.size w' v zs ∧ Rdr w0 w' g vb bs a' bad' ∧ w.grownBy w' (some g) ∧ BStep bs n a bad zs a' bad' := by
 have c0 := h.cell0
 have c1 := h.cell1
 have c2 := h.cell2
 have f1 := h.froz 1
 have f2 := h.froz 2
 have ha := h.2.2.2.2
 have hgl := h.lt
 have hlen := h.is.len_run Tryz.elemB
 cases bad
 ·by_cases hn : n ≤ bs.length - a
  ·obtain ⟨vs, hsl, isl⟩ := h.is.slice_lh Tryz.elemB Tryz.sizeE a (a + n) (by omega) (by omega)
   rw [show a + n - a = n by omega] at isl
   have hsl2 : ∀ wx, (Instr.slice 66 vb (some (.int .i64 (a : Int))) (some (.int .i64 ((a : Int) + (n : Int)))) none).run Tryz.prog wx = .ok vs wx := by simpa using hsl
   have hwr : IntKind.i64.wrap ((a : Int) + (n : Int)) = (a : Int) + n := wrap_i64_small _ (by omega) (by omega)
   clear hsl
   have hge : ¬ (bs.length : Int) - a < n := by omega
   have HH := hide h
   have hlt : ((bs.drop a).take n).length = n := by rw [List.length_take, List.length_drop]; omega
   clear h
   go_enter Tryz.func113, Tryz.ntmps113
   go_wp2_with fail
   go_quiet (fail)
   have is2 : ∀ m, Is .u8 (w.drewN m) vs ((bs.drop a).take n) := fun m => isl.drewN m
   go_wp2_with fail
   go_region_law (refine step_append_is rfl (.tmp 27) (.tmp 42) 66 rfl .u8 5 w.heap.size 1 Tryz.underlying66 Tryz.info5 (by decide) _ [] (by simp [Act.eval, Act.put]) (Own.nil _ _ _ _) _ ((bs.drop a).take n) (by simp [Act.eval, Act.put]) (is2 _) (by simp; omega) (by simp) ?_; intro v3 w3 own3 bel3' _; have bel3 : Below w.heap.size w w3 := (below_drewN (Below.refl _ _) _).trans bel3'; have hr := HH.out.below bel3; have k1 := hr.cell1; have g1 := hr.froz 1; have HR := hide hr; clear hr bel3')
   all_goals
    rw [List.nil_append] at own3
    have own4 := own3.kept (grown_setCell w3 ⟨g, 1, none⟩ (.int .i64 ((a + n : Nat) : Int))) (by
     cases hv : v3.ownBlock with
     | none => exact .inl rfl
     | some b => exact .inr (fun e => by have := own3.block b hv; simp at e; omega))
    clear is2 isl hsl2
    go_wp2
    go_ret
    exact ⟨_, _, a + n, false, rfl, own4, HR.out.put1 (a + n) (by omega), grown_trans (grown_of_below bel3 _) (grown_setCell _ _ _), .inr ⟨rfl, hn, rfl, rfl, rfl⟩⟩
  ·have hge : (bs.length : Int) - a < n := by omega
   have HH := hide h
   clear h
   go_enter Tryz.func113, Tryz.ntmps113
   go_wp2_with fail
   go_quiet (fail)
   go_wp2
   go_ret
   exact ⟨_, [], a, true, rfl, Own.nil _ _ _ _, (HH.out.below (below_drewN (Below.refl _ _) nq)).put2 true, grown_trans (grown_drewN _ _ _) (grown_setCell _ _ _), .inl ⟨.inr (by omega), rfl, rfl, rfl⟩⟩
 ·have HH := hide h
  clear h
  go_enter Tryz.func113, Tryz.ntmps113
  go_wp2_with fail
  go_quiet (fail)
  go_wp2
  go_ret
  exact ⟨_, [], a, true, rfl, Own.nil _ _ _ _, (HH.out.below (below_drewN (Below.refl _ _) nq)).put2 true, grown_trans (grown_drewN _ _ _) (grown_setCell _ _ _), .inl ⟨.inl rfl, rfl, rfl, rfl⟩⟩

def NStep (bs : List Int) (a : Nat) (bad : Bool) (p : Bool) (k v : List UInt8) (a' : Nat) (bad' : Bool) : Prop :=
 (bad = true ∧ bad' = true ∧ p = false ∧ k = [] ∧ v = []) ∨ (bad = false ∧ ∃ n e : Int, Om.ORes (bs.drop a) p k v n e ∧ bad' = decide (e ≠ 0) ∧ (e = 0 → (a' : Int) = a + n))

theorem kind_bad {bs : List Int} (h : ∀ x : Nat, x ≤ 1 → ¬ Vm.enc x <+: bs) : Om.ORes bs false [] [] 0 5 := by
 refine .inr ⟨rfl, rfl, rfl, rfl, rfl, fun p k v _ hp => ?_⟩
 cases p
 ·exact h 0 (by omega) ((show Vm.enc 0 <+: Om.opEnc false k v by rw [Vm.enc_lo (by omega)]; simp [Om.opEnc]).trans hp)
 ·exact h 1 (by omega) ((show Vm.enc 1 <+: Om.opEnc true k v by rw [Vm.enc_lo (by omega)]; simp [Om.opEnc]).trans hp)

theorem cstep {bs : List Int} (hby : ∀ z ∈ bs, 0 ≤ z ∧ z < 256) {most a u a1 a2 : Nat} {b1 b2 : Bool} {zs : List Int} (hm : most ≤ 64) (ha : a ≤ bs.length) (hs : SStep bs most a false u a1 b1) (hb : BStep bs u a1 b1 zs a2 b2) :
  (b2 = true ∧ zs = [] ∧ Om.CRes (bs.drop a) most [] 0 5) ∨ (b2 = false ∧ Om.CRes (bs.drop a) most (Om.byts zs) (a2 - a) 0 ∧ a ≤ a2 ∧ a2 ≤ bs.length) := by
 rcases hs with ⟨h, _⟩ | ⟨_, rfl, rfl, rfl, h⟩ | ⟨_, rfl, hu, hp, rfl⟩
 ·simp at h
 ·rcases hb with ⟨_, rfl, rfl, rfl⟩ | ⟨h', _⟩
  ·exact .inl ⟨rfl, rfl, .inr ⟨rfl, rfl, rfl, fun t ht hp => h t.length (by omega) ((List.prefix_append _ _).trans hp)⟩⟩
  ·simp at h'
 ·have hR : Vm.Res (bs.drop a) u (Vm.sz u : Nat) 0 := .inl ⟨u, by omega, hp, rfl, rfl, rfl⟩
  have hl := hp.length_le
  rw [List.length_drop] at hl
  rcases hb with ⟨h', rfl, rfl, rfl⟩ | ⟨_, h', rfl, rfl, rfl⟩
  ·refine .inl ⟨rfl, rfl, .inr ⟨rfl, rfl, rfl, fun t ht => cres_short (most := most) hR ?_ t ht hm⟩⟩
   rw [List.length_drop]
   unfold Vm.sz at *
   simp at h'
   omega
  ·refine .inr ⟨rfl, ?_, by omega, by unfold Vm.sz at *; omega⟩
   have := cres_good (most := most) (u := u) (n := Vm.sz u) (fun z hz => hby z (List.mem_of_mem_drop hz)) hR hu (by rw [List.length_drop]; unfold Vm.sz at *; omega)
   rw [List.drop_drop] at this
   rw [show a + Vm.sz u + u - a = Vm.sz u + u by omega]
   exact this

theorem bad_stays {bs : List Int} {most a u a1 a2 : Nat} {b1 b2 : Bool} {zs : List Int} (hs : SStep bs most a true u a1 b1) (hb : BStep bs u a1 b1 zs a2 b2) : b2 = true ∧ zs = [] := by
 rcases hs with ⟨_, rfl, rfl, rfl⟩ | ⟨h, _⟩ | ⟨h, _⟩
 ·rcases hb with ⟨_, rfl, rfl, rfl⟩ | ⟨h, _⟩
  ·exact ⟨rfl, rfl⟩
  ·simp at h
 ·simp at h
 ·simp at h

theorem kind_ok {bs : List Int} {a u a1 : Nat} {b1 : Bool} (hs : SStep bs 1 a false u a1 b1) : (b1 = true ∧ u = 0 ∧ Om.ORes (bs.drop a) false [] [] 0 5) ∨ (b1 = false ∧ u ≤ 1 ∧ a1 = a + 1 ∧ a1 ≤ bs.length ∧ bs.drop a = (u : Int) :: bs.drop a1) := by
 rcases hs with ⟨h, _⟩ | ⟨_, rfl, rfl, rfl, h⟩ | ⟨_, rfl, hu, hp, rfl⟩
 ·simp at h
 ·exact .inl ⟨rfl, rfl, kind_bad h⟩
 ·rw [Vm.sz_lo (by omega)]
  rw [Vm.enc_lo (by omega)] at hp
  have hl := hp.length_le
  simp at hl
  obtain ⟨r, hr⟩ := hp
  refine .inr ⟨rfl, hu, rfl, by omega, ?_⟩
  have : bs.drop (a + 1) = r := by rw [← List.drop_drop, ← hr]; simp
  rw [this, ← hr]
  simp

theorem next_del {bs : List Int} (hby : ∀ z ∈ bs, 0 ≤ z ∧ z < 256) {a u a1 u2 a2 a3 : Nat} {bad b1 b2 b3 : Bool} {zs : List Int} (ha : a ≤ bs.length) (h1 : SStep bs 1 a bad u a1 b1) (hu : u ≠ 1) (h2 : SStep bs 16 a1 b1 u2 a2 b2) (h3 : BStep bs u2 a2 b2 zs a3 b3) :
  (b3 = true ∧ zs = [] ∧ ∀ a', NStep bs a bad false [] [] a' true) ∨ (b3 = false ∧ Om.chk false (Om.byts zs) [] = 0 ∧ NStep bs a bad false (Om.byts zs) [] a3 false) ∨ (b3 = false ∧ Om.chk false (Om.byts zs) [] = 2 ∧ ∀ a', NStep bs a bad false [] [] a' true) := by
 cases bad
 ·rcases kind_ok h1 with ⟨rfl, rfl, h⟩ | ⟨rfl, hu1, rfl, hal, hd⟩
  ·have := bad_stays h2 h3
   exact .inl ⟨this.1, this.2, fun a' => .inr ⟨rfl, 0, 5, h, rfl, fun h => by simp at h⟩⟩
  ·have hu0 : u = 0 := by omega
   subst hu0
   have hd' : bs.drop a = (0 : Int) :: bs.drop (a + 1) := by simpa using hd
   rcases cstep hby (by omega) hal h2 h3 with ⟨rfl, rfl, hc⟩ | ⟨rfl, hc, hle, hle2⟩
   ·refine .inl ⟨rfl, rfl, fun a' => .inr ⟨rfl, 0, 5, ?_, rfl, fun h => by simp at h⟩⟩
    rw [hd']
    exact Om.ores_key hc (.inl (by simp))
   ·have hlen : (Om.byts zs).length ≤ 16 := by
     rcases hc with ⟨_, h, _⟩ | ⟨h, _⟩
     ·exact h
     ·simp at h
    by_cases hz : Om.byts zs = []
    ·refine .inr (.inr ⟨rfl, Om.chk_no (by rw [hz]; simp), fun a' => .inr ⟨rfl, 0, 5, ?_, rfl, fun h => by simp at h⟩⟩)
     rw [hd']
     exact Om.ores_key hc (.inr hz)
    ·have hp : 0 < (Om.byts zs).length := List.length_pos_iff.2 hz
     refine .inr (.inl ⟨rfl, Om.chk_ok ⟨by omega, hlen, by simp, .inr rfl⟩, .inr ⟨rfl, ((1 + (a3 - (a + 1)) : Nat) : Int), 0, ?_, rfl, fun _ => ?_⟩⟩)
     ·rw [hd']
      exact Om.ores_del hc hz
     ·omega
 ·rcases h1 with ⟨_, rfl, rfl, rfl⟩ | ⟨h, _⟩ | ⟨h, _⟩
  ·have := bad_stays h2 h3
   exact .inl ⟨this.1, this.2, fun a' => .inl ⟨rfl, rfl, rfl, rfl, rfl⟩⟩
  ·simp at h
  ·simp at h

theorem next_put {bs : List Int} (hby : ∀ z ∈ bs, 0 ≤ z ∧ z < 256) {a a1 u2 a2 a3 u4 a4 a5 : Nat} {bad b1 b2 b3 b4 b5 : Bool} {zs ys : List Int} (ha : a ≤ bs.length) (h1 : SStep bs 1 a bad 1 a1 b1) (h2 : SStep bs 16 a1 b1 u2 a2 b2) (h3 : BStep bs u2 a2 b2 zs a3 b3) (h4 : SStep bs 32 a3 b3 u4 a4 b4) (h5 : BStep bs u4 a4 b4 ys a5 b5) :
  (b5 = true ∧ ∀ a', NStep bs a bad false [] [] a' true) ∨ (b5 = false ∧ Om.chk true (Om.byts zs) (Om.byts ys) = 0 ∧ NStep bs a bad true (Om.byts zs) (Om.byts ys) a5 false) ∨ (b5 = false ∧ Om.chk true (Om.byts zs) (Om.byts ys) = 2 ∧ ∀ a', NStep bs a bad false [] [] a' true) := by
 cases bad
 ·rcases kind_ok h1 with ⟨rfl, h, _⟩ | ⟨rfl, hu1, rfl, hal, hd⟩
  ·simp at h
  ·have hd' : bs.drop a = (1 : Int) :: bs.drop (a + 1) := by simpa using hd
   rcases cstep hby (by omega) hal h2 h3 with ⟨rfl, rfl, hc⟩ | ⟨rfl, hc, hle, hle2⟩
   ·have := bad_stays h4 h5
    refine .inl ⟨this.1, fun a' => .inr ⟨rfl, 0, 5, ?_, rfl, fun h => by simp at h⟩⟩
    rw [hd']
    exact Om.ores_key hc (.inl (by simp))
   ·have hlen : (Om.byts zs).length ≤ 16 := by
     rcases hc with ⟨_, h, _⟩ | ⟨h, _⟩
     ·exact h
     ·simp at h
    rcases cstep hby (by omega) hle2 h4 h5 with ⟨rfl, rfl, hv⟩ | ⟨rfl, hv, hle4, hle5⟩
    ·refine .inl ⟨rfl, fun a' => .inr ⟨rfl, 0, 5, ?_, rfl, fun h => by simp at h⟩⟩
     rw [hd']
     refine Om.ores_val hc (e := 5) (t := []) (m := 0) ?_ (by simp)
     rw [List.drop_drop, show a + 1 + (a3 - (a + 1)) = a3 by omega]
     exact hv
    ·have hlen2 : (Om.byts ys).length ≤ 32 := by
      rcases hv with ⟨_, h, _⟩ | ⟨h, _⟩
      ·exact h
      ·simp at h
     by_cases hz : Om.byts zs = []
     ·refine .inr (.inr ⟨rfl, Om.chk_no (by rw [hz]; simp), fun a' => .inr ⟨rfl, 0, 5, ?_, rfl, fun h => by simp at h⟩⟩)
      rw [hd']
      exact Om.ores_key hc (.inr hz)
     ·have hp : 0 < (Om.byts zs).length := List.length_pos_iff.2 hz
      refine .inr (.inl ⟨rfl, Om.chk_ok ⟨by omega, hlen, hlen2, .inl rfl⟩, .inr ⟨rfl, ((1 + (a3 - (a + 1)) + (a5 - a3) : Nat) : Int), 0, ?_, rfl, fun _ => ?_⟩⟩)
      ·rw [hd']
       refine Om.ores_put hc hz (m := a5 - a3) ?_
       rw [List.drop_drop, show a + 1 + (a3 - (a + 1)) = a3 by omega]
       exact hv
      ·omega
 ·rcases h1 with ⟨_, _, h, _⟩ | ⟨h, _⟩ | ⟨h, _⟩ <;> simp at h

theorem Rdr.grown {w0 w w' : World} {g a O : Nat} {vb : Value} {bs : List Int} {bad : Bool} (h : Rdr w0 w g vb bs a bad) (hg : w.grownBy w' (some O)) (h1 : w0.heap.size ≤ O) (hne : O ≠ g) : Rdr w0 w' g vb bs a bad :=
 ⟨h.1, h.2.1, h.2.2.1.grown hg h.2.2.1.size (fun k hk => by simp at hk; omega), (hg.block g h.lt (by simp; omega)).trans h.2.2.2.1, h.2.2.2.2⟩

set_option maxHeartbeats 1000000 in
theorem onext_any (w0 w : World) (g : Nat) (vb : Value) (bs : List Int) (a : Nat) (bad : Bool) (h : Rdr w0 w g vb bs a bad) (hl : bs.length ≤ 140737488355328) :
  Calls Tryz.prog 115 #[.pointer (some ⟨g, 0, none⟩)] w fun E w' => ∃ (p : Bool) (k v : ByteArray) (a' : Nat) (bad' : Bool), E = .returned (opv p k v) ∧ Rdr w0 w' g vb bs a' bad' ∧ w.grownBy w' (some g) ∧ NStep bs a bad p k.data.toList v.data.toList a' bad' := by
 have hby := h.1.bytes
 have ha := h.2.2.2.2
 have hgl := h.lt
 have hw0 := h.2.1
 obtain ⟨W, hW, szW, belW, blkW⟩ := blk_step w #[.bool false, .string ⟨#[]⟩, .string ⟨#[]⟩] 65
 have hr := h.below belW
 unfold opv
 go_enter Tryz.func115, Tryz.ntmps115
 go_wp2_with fail
 refine (rsmall_any w0 W g vb bs a bad 1 hr (by omega) (by omega)).mono ?_
 rintro E w1 ⟨u, a1, b1, rfl, r1, g1, s1⟩
 have blk1 := (g1.block w.heap.size (by omega) (by simp; omega)).trans blkW
 go_wp2_with fail
 refine (rsmall_any w0 w1 g vb bs a1 b1 16 r1 (by omega) (by omega)).mono ?_
 rintro E w2 ⟨u2, a2, b2, rfl, r2, g2, s2⟩
 have blk2 := (g2.block w.heap.size (blk_lt blk1) (by simp; omega)).trans blk1
 have hu2 : u2 ≤ 16 := by
  rcases s2 with ⟨_, _, h, _⟩ | ⟨_, _, h, _⟩ | ⟨_, _, h, _⟩ <;> omega
 go_wp2_with fail
 refine (rbytes_any w0 w2 g vb bs a2 b2 u2 r2 (by omega) (by omega)).mono ?_
 rintro E w3 ⟨v3, zs, a3, b3, rfl, own3, r3, g3, s3⟩
 have blk3 := (g3.block w.heap.size (blk_lt blk2) (by simp; omega)).trans blk2
 have hconv := own3.is.conv Tryz.underlying66 Tryz.underlying5 Tryz.underlying9
 have gA : w.grownBy w3 (some g) := grown_trans (grown_trans (grown_trans (grown_of_below belW _) g1) g2) g3
 have hszR : w.heap.size < w3.heap.size := blk_lt blk3
 clear own3 hW szW belW blkW hr g1 g2 g3 blk1 blk2 r1 r2 h
 by_cases hu : u = 1
 ·subst hu
  have hkl : (Om.byts zs).length ≤ 16 := by
   rw [Om.byts_len]
   rcases s3 with ⟨_, _, rfl, _⟩ | ⟨_, _, _, rfl, _⟩
   ·simp
   ·rw [List.length_take]; omega
  obtain ⟨ks, hks⟩ : ∃ ks, Om.byts zs = ks := ⟨_, rfl⟩
  rw [hks] at hconv hkl
  have HKS := hide hks
  have HS1 := hide s1
  have HS2 := hide s2
  have HS3 := hide s3
  clear hks s1 s2 s3
  obtain ⟨W4, hW4, sz4, bel4, blk4⟩ := blk_step w3 #[.bool true, .string ⟨ks.toArray⟩, .string ⟨#[]⟩] 65
  have r4 := r3.below bel4
  have blkR := (bel4.block w.heap.size hszR).trans blk3
  have e2 : W4.setCell ⟨w3.heap.size, 2, none⟩ (.string ⟨#[]⟩) = W4 := set_same blk4 (j := 2) rfl
  have o0 : W4.cell? ⟨w3.heap.size, 0, none⟩ = some (.bool true) := blk_cell blk4 0 rfl
  have o1 : W4.cell? ⟨w3.heap.size, 1, none⟩ = some (.string ⟨ks.toArray⟩) := blk_cell blk4 1 rfl
  have o2 : W4.cell? ⟨w3.heap.size, 2, none⟩ = some (.string ⟨#[]⟩) := blk_cell blk4 2 rfl
  have O2 := blk_froz blk4 2
  have c2 := r4.cell2
  have f2 := r4.froz 2
  have gB : w.grownBy W4 (some g) := grown_trans gA (grown_of_below bel4 _)
  have HR4 := hide r4
  have HB4 := hide blk4
  clear r3 r4 blk3 blk4 gA bel4
  have hO : w3.heap.size ≠ g := by omega
  go_wp2_with fail
  refine (rsmall_any w0 W4 g vb bs a3 b3 32 HR4.out (by omega) (by omega)).mono ?_
  rintro E w5 ⟨u4, a4, b4, rfl, r5, g5, s4⟩
  have hu4 : u4 ≤ 32 := by
   rcases s4 with ⟨_, _, h, _⟩ | ⟨_, _, h, _⟩ | ⟨_, _, h, _⟩ <;> omega
  have blkO5 := (g5.block w3.heap.size (blk_lt HB4.out) (by simp; omega)).trans HB4.out
  have blkR5 := (g5.block w.heap.size (blk_lt blkR) (by simp; omega)).trans blkR
  go_wp2_with fail
  refine (rbytes_any w0 w5 g vb bs a4 b4 u4 r5 (by omega) (by omega)).mono ?_
  rintro E w6 ⟨v6, ys, a5, b5, rfl, own6, r6, g6, s5⟩
  have blkO6 := (g6.block w3.heap.size (blk_lt blkO5) (by simp; omega)).trans blkO5
  have blkR6 := (g6.block w.heap.size (blk_lt blkR5) (by simp; omega)).trans blkR5
  have hconv2 := own6.is.conv Tryz.underlying66 Tryz.underlying5 Tryz.underlying9
  have g6' : w.grownBy w6 (some g) := grown_trans (grown_trans gB g5) g6
  have hN := next_put hby ha HS1.out HS2.out HS3.out s4 s5
  have hyl : (Om.byts ys).length ≤ 32 := by
   rw [Om.byts_len]
   rcases s5 with ⟨_, _, rfl, _⟩ | ⟨_, _, _, rfl, _⟩
   ·simp
   ·rw [List.length_take]; omega
  rw [HKS.out] at hN
  generalize Om.byts ys = js at *
  obtain ⟨V6, hV6⟩ : ∃ V, w6.setCell ⟨w3.heap.size, 2, none⟩ (.string ⟨js.toArray⟩) = V := ⟨_, rfl⟩
  have q2 : w6.cell? ⟨w3.heap.size, 2, none⟩ = some (.string ⟨#[]⟩) := blk_cell blkO6 2 rfl
  have z2 := blk_froz blkO6 2
  have rV6 : Rdr w0 V6 g vb bs a5 b5 := by rw [← hV6]; exact r6.grown (grown_setCell _ ⟨w3.heap.size, 2, none⟩ _) (show w0.heap.size ≤ w3.heap.size by omega) hO
  have bO6 : V6.heap[w3.heap.size]? = some (.cells #[.bool true, .string ⟨ks.toArray⟩, .string ⟨js.toArray⟩] 65 (0, 0)) := by rw [← hV6]; exact set_cells blkO6 2 _
  have bR6 := blkR6
  rw [← Below.heap_setCell w6 ⟨w3.heap.size, 2, none⟩ (.string ⟨js.toArray⟩) w.heap.size (by simp; omega), hV6] at bR6
  have gV6 : w.grownBy V6 (some g) := by rw [← hV6]; exact grown_fresh g6' (grown_setCell _ ⟨w3.heap.size, 2, none⟩ _) (show w.heap.size ≤ w3.heap.size by omega)
  have t0 : V6.cell? ⟨w3.heap.size, 0, none⟩ = some (.bool true) := blk_cell bO6 0 rfl
  have t1 : V6.cell? ⟨w3.heap.size, 1, none⟩ = some (.string ⟨ks.toArray⟩) := blk_cell bO6 1 rfl
  have t2 : V6.cell? ⟨w3.heap.size, 2, none⟩ = some (.string ⟨js.toArray⟩) := blk_cell bO6 2 rfl
  have tb := rV6.cell2
  have tf := rV6.froz 2
  have HRV := hide rV6
  have HBO := hide bO6
  clear s4 s5 HS1 HS2 HS3 HKS g5 g6 g6' r5 r6 blkO5 blkO6 blkR5 blkR6 own6 rV6 bO6 HB4 HR4 gB blkR c2 f2 o0 o1 hby ha
  rcases hN with ⟨rfl, hN⟩ | ⟨rfl, hc, hN⟩ | ⟨rfl, hc, hN⟩
  ·have HN := hide hN
   clear hN
   obtain ⟨V, hV⟩ : ∃ V, V6.setCell ⟨g, 2, none⟩ (.bool true) = V := ⟨_, rfl⟩
   have rV : Rdr w0 V g vb bs a5 true := by rw [← hV]; exact HRV.out.put2 true
   have bV : V.heap[w.heap.size]? = some (.cells #[.bool false, .string ⟨#[]⟩, .string ⟨#[]⟩] 65 (0, 0)) := by
    rw [← hV, Below.heap_setCell _ _ _ _ (by simp; omega)]
    exact bR6
   have gV : w.grownBy V (some g) := by rw [← hV]; exact grown_trans gV6 (grown_setCell _ _ _)
   obtain ⟨V', hV', bV', gV'⟩ := put3 bV (.bool false) (.string ⟨#[]⟩) (.string ⟨#[]⟩)
   have R0 : V.cell? ⟨w.heap.size, 0, none⟩ = some (.bool false) := blk_cell bV 0 rfl
   have R1 : V.cell? ⟨w.heap.size, 1, none⟩ = some (.string ⟨#[]⟩) := blk_cell bV 1 rfl
   have R2 : V.cell? ⟨w.heap.size, 2, none⟩ = some (.string ⟨#[]⟩) := blk_cell bV 2 rfl
   have F0 := blk_froz bV 0
   have F1 := blk_froz bV 1
   have F2 := blk_froz bV 2
   have k0 : V'.cell? ⟨w.heap.size, 0, none⟩ = some (.bool false) := blk_cell bV' 0 rfl
   have k1 : V'.cell? ⟨w.heap.size, 1, none⟩ = some (.string ⟨#[]⟩) := blk_cell bV' 1 rfl
   have k2 : V'.cell? ⟨w.heap.size, 2, none⟩ = some (.string ⟨#[]⟩) := blk_cell bV' 2 rfl
   have HF : Hid (Rdr w0 V' g vb bs a5 true ∧ w.grownBy V' (some g)) := ⟨rV.grown gV' (by omega) (by omega), grown_fresh gV gV' (Nat.le_refl _)⟩
   clear rV bV gV bV' gV' bR6
   go_wp2
   refine bodyPost_ret (v := .agg #[.bool false, .string ⟨#[]⟩, .string ⟨#[]⟩]) (by simp [results, Tryz.results115, go_sem, k0, k1, k2]) rfl ?_
   exact ⟨_, _, _, _, _, rfl, HF.out.1, HF.out.2, HN.out _⟩
  ·have HN := hide hN
   have hc' : Om.chk true (⟨ks.toArray⟩ : ByteArray).data.toList (⟨js.toArray⟩ : ByteArray).data.toList = 0 := hc
   have HC := hide hc'
   clear hN hc hc'
   go_wp2_with fail
   refine (checkR_any true ⟨ks.toArray⟩ ⟨js.toArray⟩ _ (by rw [Lib.size_eq]; simp; omega) (by rw [Lib.size_eq]; simp; omega)).mono ?_
   rintro E w9 ⟨rfl, bel9⟩
   rw [HC.out]
   have r9 := HRV.out.below bel9
   have blk9 := (bel9.block w3.heap.size (blk_lt HBO.out)).trans HBO.out
   have blkR9 := (bel9.block w.heap.size (blk_lt bR6)).trans bR6
   have gB9 : w.grownBy w9 (some g) := grown_trans gV6 (grown_of_below bel9 _)
   have p0 : w9.cell? ⟨w3.heap.size, 0, none⟩ = some (.bool true) := blk_cell blk9 0 rfl
   have p1 : w9.cell? ⟨w3.heap.size, 1, none⟩ = some (.string ⟨ks.toArray⟩) := blk_cell blk9 1 rfl
   have p2 : w9.cell? ⟨w3.heap.size, 2, none⟩ = some (.string ⟨js.toArray⟩) := blk_cell blk9 2 rfl
   have d2 := r9.cell2
   have h2 := r9.froz 2
   have HR9 := hide r9
   clear r9 blk9 bel9 bR6
   have bV := blkR9
   have gV := gB9
   have rV := HR9.out
   obtain ⟨V', hV', bV', gV'⟩ := put3 bV (.bool true) (.string ⟨ks.toArray⟩) (.string ⟨js.toArray⟩)
   have R0 : w9.cell? ⟨w.heap.size, 0, none⟩ = some (.bool false) := blk_cell bV 0 rfl
   have R1 : w9.cell? ⟨w.heap.size, 1, none⟩ = some (.string ⟨#[]⟩) := blk_cell bV 1 rfl
   have R2 : w9.cell? ⟨w.heap.size, 2, none⟩ = some (.string ⟨#[]⟩) := blk_cell bV 2 rfl
   have F0 := blk_froz bV 0
   have F1 := blk_froz bV 1
   have F2 := blk_froz bV 2
   have k0 : V'.cell? ⟨w.heap.size, 0, none⟩ = some (.bool true) := blk_cell bV' 0 rfl
   have k1 : V'.cell? ⟨w.heap.size, 1, none⟩ = some (.string ⟨ks.toArray⟩) := blk_cell bV' 1 rfl
   have k2 : V'.cell? ⟨w.heap.size, 2, none⟩ = some (.string ⟨js.toArray⟩) := blk_cell bV' 2 rfl
   have HF : Hid (Rdr w0 V' g vb bs a5 false ∧ w.grownBy V' (some g)) := ⟨rV.grown gV' (by omega) (by omega), grown_fresh gV gV' (Nat.le_refl _)⟩
   clear rV bV gV bV' gV' blkR9
   go_wp2
   refine bodyPost_ret (v := .agg #[.bool true, .string ⟨ks.toArray⟩, .string ⟨js.toArray⟩]) (by simp [results, Tryz.results115, go_sem, k0, k1, k2]) rfl ?_
   exact ⟨_, _, _, _, _, rfl, HF.out.1, HF.out.2, HN.out⟩
  ·have HN := hide hN
   have hc' : Om.chk true (⟨ks.toArray⟩ : ByteArray).data.toList (⟨js.toArray⟩ : ByteArray).data.toList = 2 := hc
   have HC := hide hc'
   clear hN hc hc'
   go_wp2_with fail
   refine (checkR_any true ⟨ks.toArray⟩ ⟨js.toArray⟩ _ (by rw [Lib.size_eq]; simp; omega) (by rw [Lib.size_eq]; simp; omega)).mono ?_
   rintro E w9 ⟨rfl, bel9⟩
   rw [HC.out]
   have r9 := HRV.out.below bel9
   have blk9 := (bel9.block w3.heap.size (blk_lt HBO.out)).trans HBO.out
   have blkR9 := (bel9.block w.heap.size (blk_lt bR6)).trans bR6
   have gB9 : w.grownBy w9 (some g) := grown_trans gV6 (grown_of_below bel9 _)
   have p0 : w9.cell? ⟨w3.heap.size, 0, none⟩ = some (.bool true) := blk_cell blk9 0 rfl
   have p1 : w9.cell? ⟨w3.heap.size, 1, none⟩ = some (.string ⟨ks.toArray⟩) := blk_cell blk9 1 rfl
   have p2 : w9.cell? ⟨w3.heap.size, 2, none⟩ = some (.string ⟨js.toArray⟩) := blk_cell blk9 2 rfl
   have d2 := r9.cell2
   have h2 := r9.froz 2
   have HR9 := hide r9
   clear r9 blk9 bel9 bR6
   obtain ⟨V, hV⟩ : ∃ V, w9.setCell ⟨g, 2, none⟩ (.bool true) = V := ⟨_, rfl⟩
   have rV : Rdr w0 V g vb bs a5 true := by rw [← hV]; exact HR9.out.put2 true
   have bV : V.heap[w.heap.size]? = some (.cells #[.bool false, .string ⟨#[]⟩, .string ⟨#[]⟩] 65 (0, 0)) := by
    rw [← hV, Below.heap_setCell _ _ _ _ (by simp; omega)]
    exact blkR9
   have gV : w.grownBy V (some g) := by rw [← hV]; exact grown_trans gB9 (grown_setCell _ _ _)
   obtain ⟨V', hV', bV', gV'⟩ := put3 bV (.bool false) (.string ⟨#[]⟩) (.string ⟨#[]⟩)
   have R0 : V.cell? ⟨w.heap.size, 0, none⟩ = some (.bool false) := blk_cell bV 0 rfl
   have R1 : V.cell? ⟨w.heap.size, 1, none⟩ = some (.string ⟨#[]⟩) := blk_cell bV 1 rfl
   have R2 : V.cell? ⟨w.heap.size, 2, none⟩ = some (.string ⟨#[]⟩) := blk_cell bV 2 rfl
   have F0 := blk_froz bV 0
   have F1 := blk_froz bV 1
   have F2 := blk_froz bV 2
   have k0 : V'.cell? ⟨w.heap.size, 0, none⟩ = some (.bool false) := blk_cell bV' 0 rfl
   have k1 : V'.cell? ⟨w.heap.size, 1, none⟩ = some (.string ⟨#[]⟩) := blk_cell bV' 1 rfl
   have k2 : V'.cell? ⟨w.heap.size, 2, none⟩ = some (.string ⟨#[]⟩) := blk_cell bV' 2 rfl
   have HF : Hid (Rdr w0 V' g vb bs a5 true ∧ w.grownBy V' (some g)) := ⟨rV.grown gV' (by omega) (by omega), grown_fresh gV gV' (Nat.le_refl _)⟩
   clear rV bV gV bV' gV' blkR9
   go_wp2
   refine bodyPost_ret (v := .agg #[.bool false, .string ⟨#[]⟩, .string ⟨#[]⟩]) (by simp [results, Tryz.results115, go_sem, k0, k1, k2]) rfl ?_
   exact ⟨_, _, _, _, _, rfl, HF.out.1, HF.out.2, HN.out _⟩
 ·have hN := next_del hby ha s1 hu s2 s3
  have hq : ((u : Int) == 1) = false := by simp; omega
  have hkl : (Om.byts zs).length ≤ 16 := by
   rw [Om.byts_len]
   rcases s3 with ⟨_, _, rfl, _⟩ | ⟨_, _, _, rfl, _⟩
   ·simp
   ·rw [List.length_take]; omega
  clear s1 s2 s3 hby ha
  generalize Om.byts zs = ks at *
  obtain ⟨W4, hW4, sz4, bel4, blk4⟩ := blk_step w3 #[.bool false, .string ⟨ks.toArray⟩, .string ⟨#[]⟩] 65
  have r4 := r3.below bel4
  have blkR := (bel4.block w.heap.size hszR).trans blk3
  have e2 : W4.setCell ⟨w3.heap.size, 2, none⟩ (.string ⟨#[]⟩) = W4 := set_same blk4 (j := 2) rfl
  have o0 : W4.cell? ⟨w3.heap.size, 0, none⟩ = some (.bool false) := blk_cell blk4 0 rfl
  have o1 : W4.cell? ⟨w3.heap.size, 1, none⟩ = some (.string ⟨ks.toArray⟩) := blk_cell blk4 1 rfl
  have o2 : W4.cell? ⟨w3.heap.size, 2, none⟩ = some (.string ⟨#[]⟩) := blk_cell blk4 2 rfl
  have O2 := blk_froz blk4 2
  have c2 := r4.cell2
  have f2 := r4.froz 2
  have gB : w.grownBy W4 (some g) := grown_trans gA (grown_of_below bel4 _)
  have HR4 := hide r4
  have HB4 := hide blk4
  clear r3 r4 blk3 blk4 gA bel4
  rcases hN with ⟨rfl, rfl, hN⟩ | ⟨rfl, hc, hN⟩ | ⟨rfl, hc, hN⟩
  ·have HN := hide hN
   clear hN
   obtain ⟨V, hV⟩ : ∃ V, W4.setCell ⟨g, 2, none⟩ (.bool true) = V := ⟨_, rfl⟩
   have rV : Rdr w0 V g vb bs a3 true := by rw [← hV]; exact HR4.out.put2 true
   have bV : V.heap[w.heap.size]? = some (.cells #[.bool false, .string ⟨#[]⟩, .string ⟨#[]⟩] 65 (0, 0)) := by
    rw [← hV, Below.heap_setCell _ _ _ _ (by simp; omega)]
    exact blkR
   have gV : w.grownBy V (some g) := by rw [← hV]; exact grown_trans gB (grown_setCell _ _ _)
   obtain ⟨V', hV', bV', gV'⟩ := put3 bV (.bool false) (.string ⟨#[]⟩) (.string ⟨#[]⟩)
   have R0 : V.cell? ⟨w.heap.size, 0, none⟩ = some (.bool false) := blk_cell bV 0 rfl
   have R1 : V.cell? ⟨w.heap.size, 1, none⟩ = some (.string ⟨#[]⟩) := blk_cell bV 1 rfl
   have R2 : V.cell? ⟨w.heap.size, 2, none⟩ = some (.string ⟨#[]⟩) := blk_cell bV 2 rfl
   have F0 := blk_froz bV 0
   have F1 := blk_froz bV 1
   have F2 := blk_froz bV 2
   have k0 : V'.cell? ⟨w.heap.size, 0, none⟩ = some (.bool false) := blk_cell bV' 0 rfl
   have k1 : V'.cell? ⟨w.heap.size, 1, none⟩ = some (.string ⟨#[]⟩) := blk_cell bV' 1 rfl
   have k2 : V'.cell? ⟨w.heap.size, 2, none⟩ = some (.string ⟨#[]⟩) := blk_cell bV' 2 rfl
   have HF : Hid (Rdr w0 V' g vb bs a3 true ∧ w.grownBy V' (some g)) := ⟨rV.grown gV' (by omega) (by omega), grown_fresh gV gV' (Nat.le_refl _)⟩
   clear rV bV gV bV' gV' blkR
   go_wp2
   refine bodyPost_ret (v := .agg #[.bool false, .string ⟨#[]⟩, .string ⟨#[]⟩]) (by simp [results, Tryz.results115, go_sem, k0, k1, k2]) rfl ?_
   exact ⟨_, _, _, _, _, rfl, HF.out.1, HF.out.2, HN.out _⟩
  ·have HN := hide hN
   have hc' : Om.chk false (⟨ks.toArray⟩ : ByteArray).data.toList (⟨#[]⟩ : ByteArray).data.toList = 0 := hc
   have HC := hide hc'
   clear hN hc hc'
   go_wp2_with fail
   refine (checkR_any false ⟨ks.toArray⟩ ⟨#[]⟩ _ (by rw [Lib.size_eq]; simp; omega) (by rw [Lib.size_eq]; simp)).mono ?_
   rintro E w9 ⟨rfl, bel9⟩
   rw [HC.out]
   have r9 := HR4.out.below bel9
   have blk9 := (bel9.block w3.heap.size (blk_lt HB4.out)).trans HB4.out
   have blkR9 := (bel9.block w.heap.size (blk_lt blkR)).trans blkR
   have gB9 : w.grownBy w9 (some g) := grown_trans gB (grown_of_below bel9 _)
   have p0 : w9.cell? ⟨w3.heap.size, 0, none⟩ = some (.bool false) := blk_cell blk9 0 rfl
   have p1 : w9.cell? ⟨w3.heap.size, 1, none⟩ = some (.string ⟨ks.toArray⟩) := blk_cell blk9 1 rfl
   have p2 : w9.cell? ⟨w3.heap.size, 2, none⟩ = some (.string ⟨#[]⟩) := blk_cell blk9 2 rfl
   have d2 := r9.cell2
   have h2 := r9.froz 2
   have HR9 := hide r9
   clear r9 blk9 bel9 blkR
   have bV := blkR9
   have gV := gB9
   have rV := HR9.out
   obtain ⟨V', hV', bV', gV'⟩ := put3 bV (.bool false) (.string ⟨ks.toArray⟩) (.string ⟨#[]⟩)
   have R0 : w9.cell? ⟨w.heap.size, 0, none⟩ = some (.bool false) := blk_cell bV 0 rfl
   have R1 : w9.cell? ⟨w.heap.size, 1, none⟩ = some (.string ⟨#[]⟩) := blk_cell bV 1 rfl
   have R2 : w9.cell? ⟨w.heap.size, 2, none⟩ = some (.string ⟨#[]⟩) := blk_cell bV 2 rfl
   have F0 := blk_froz bV 0
   have F1 := blk_froz bV 1
   have F2 := blk_froz bV 2
   have k0 : V'.cell? ⟨w.heap.size, 0, none⟩ = some (.bool false) := blk_cell bV' 0 rfl
   have k1 : V'.cell? ⟨w.heap.size, 1, none⟩ = some (.string ⟨ks.toArray⟩) := blk_cell bV' 1 rfl
   have k2 : V'.cell? ⟨w.heap.size, 2, none⟩ = some (.string ⟨#[]⟩) := blk_cell bV' 2 rfl
   have HF : Hid (Rdr w0 V' g vb bs a3 false ∧ w.grownBy V' (some g)) := ⟨rV.grown gV' (by omega) (by omega), grown_fresh gV gV' (Nat.le_refl _)⟩
   clear rV bV gV bV' gV' blkR9
   go_wp2
   refine bodyPost_ret (v := .agg #[.bool false, .string ⟨ks.toArray⟩, .string ⟨#[]⟩]) (by simp [results, Tryz.results115, go_sem, k0, k1, k2]) rfl ?_
   exact ⟨_, _, _, _, _, rfl, HF.out.1, HF.out.2, HN.out⟩
  ·have HN := hide hN
   have hc' : Om.chk false (⟨ks.toArray⟩ : ByteArray).data.toList (⟨#[]⟩ : ByteArray).data.toList = 2 := hc
   have HC := hide hc'
   clear hN hc hc'
   go_wp2_with fail
   refine (checkR_any false ⟨ks.toArray⟩ ⟨#[]⟩ _ (by rw [Lib.size_eq]; simp; omega) (by rw [Lib.size_eq]; simp)).mono ?_
   rintro E w9 ⟨rfl, bel9⟩
   rw [HC.out]
   have r9 := HR4.out.below bel9
   have blk9 := (bel9.block w3.heap.size (blk_lt HB4.out)).trans HB4.out
   have blkR9 := (bel9.block w.heap.size (blk_lt blkR)).trans blkR
   have gB9 : w.grownBy w9 (some g) := grown_trans gB (grown_of_below bel9 _)
   have p0 : w9.cell? ⟨w3.heap.size, 0, none⟩ = some (.bool false) := blk_cell blk9 0 rfl
   have p1 : w9.cell? ⟨w3.heap.size, 1, none⟩ = some (.string ⟨ks.toArray⟩) := blk_cell blk9 1 rfl
   have p2 : w9.cell? ⟨w3.heap.size, 2, none⟩ = some (.string ⟨#[]⟩) := blk_cell blk9 2 rfl
   have d2 := r9.cell2
   have h2 := r9.froz 2
   have HR9 := hide r9
   clear r9 blk9 bel9 blkR
   obtain ⟨V, hV⟩ : ∃ V, w9.setCell ⟨g, 2, none⟩ (.bool true) = V := ⟨_, rfl⟩
   have rV : Rdr w0 V g vb bs a3 true := by rw [← hV]; exact HR9.out.put2 true
   have bV : V.heap[w.heap.size]? = some (.cells #[.bool false, .string ⟨#[]⟩, .string ⟨#[]⟩] 65 (0, 0)) := by
    rw [← hV, Below.heap_setCell _ _ _ _ (by simp; omega)]
    exact blkR9
   have gV : w.grownBy V (some g) := by rw [← hV]; exact grown_trans gB9 (grown_setCell _ _ _)
   obtain ⟨V', hV', bV', gV'⟩ := put3 bV (.bool false) (.string ⟨#[]⟩) (.string ⟨#[]⟩)
   have R0 : V.cell? ⟨w.heap.size, 0, none⟩ = some (.bool false) := blk_cell bV 0 rfl
   have R1 : V.cell? ⟨w.heap.size, 1, none⟩ = some (.string ⟨#[]⟩) := blk_cell bV 1 rfl
   have R2 : V.cell? ⟨w.heap.size, 2, none⟩ = some (.string ⟨#[]⟩) := blk_cell bV 2 rfl
   have F0 := blk_froz bV 0
   have F1 := blk_froz bV 1
   have F2 := blk_froz bV 2
   have k0 : V'.cell? ⟨w.heap.size, 0, none⟩ = some (.bool false) := blk_cell bV' 0 rfl
   have k1 : V'.cell? ⟨w.heap.size, 1, none⟩ = some (.string ⟨#[]⟩) := blk_cell bV' 1 rfl
   have k2 : V'.cell? ⟨w.heap.size, 2, none⟩ = some (.string ⟨#[]⟩) := blk_cell bV' 2 rfl
   have HF : Hid (Rdr w0 V' g vb bs a3 true ∧ w.grownBy V' (some g)) := ⟨rV.grown gV' (by omega) (by omega), grown_fresh gV gV' (Nat.le_refl _)⟩
   clear rV bV gV bV' gV' blkR9
   go_wp2
   refine bodyPost_ret (v := .agg #[.bool false, .string ⟨#[]⟩, .string ⟨#[]⟩]) (by simp [results, Tryz.results115, go_sem, k0, k1, k2]) rfl ?_
   exact ⟨_, _, _, _, _, rfl, HF.out.1, HF.out.2, HN.out _⟩

end Go.Proofs.YtmmfakpphjjjfaaGreat
