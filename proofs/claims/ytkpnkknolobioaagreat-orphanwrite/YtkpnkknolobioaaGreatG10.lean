/- Texts of one layer, one behind the other. -/
import Derived.Test.YtkpnkknolobioaaGreatG9
import Derived.Test.YtkpnkknolobioaaGreatG6
import Derived.Test.YtkpnkknolobioaaGreatG8
import Derived.Maps.AppendAt
/- The contracts of the document's Next and Read of a batch. -/
namespace Go.Proofs.YtkpnkknolobioaaGreat
open Go.RowKit
set_option linter.unusedVariables false

namespace Bm
open Vm Om

/-- What a reader has come to that began at a0, so many ops being told. -/
def LA (bs : List Int) (a0 c : Nat) (l : List Ov) (a : Nat) (bad : Bool) (ah : List UInt8) : Prop :=
  (bad = false ∧ c ≤ 8 ∧ enc c <+: bs.drop a0 ∧ encL [] l <+: bs.drop (a0 + sz c) ∧ a = a0 + sz c + (encL [] l).length ∧ ah = lst [] l ∧ ∀ o ∈ l, o.shape) ∨ (bad = true ∧ NB (bs.drop a0))

theorem la_start {bs : List Int} {a0 c a : Nat} {bad : Bool} (h : SS bs 8 a0 false c a bad) : LA bs a0 c [] a bad [] := by
  rcases h with ⟨h, _⟩ | ⟨_, h1, _, _, h⟩ | ⟨_, h1, h2, h3, h4⟩
  · simp at h
  · refine .inr ⟨h1, fun m hm hp => ?_⟩
    unfold encB at hp
    rw [pre_app] at hp
    exact h _ (chkL_zero hm).2.1 hp.1
  · refine .inl ⟨h1, h2, h3, by simp [encL], by simp [encL, h4], rfl, by simp⟩

theorem la_step {bs : List Int} {a0 c a a' : Nat} {bad bad' : Bool} {l : List Ov} {ah : List UInt8} {o : Ov} (h : LA bs a0 c l a bad ah) (hl : l.length < c) (g : OS bs a bad ah o a' bad') : LA bs a0 c (l ++ [o]) a' bad' o.kl := by
  rcases h with ⟨rfl, h1, h2, h3, h4, h5, h6⟩ | ⟨rfl, h⟩
  · rcases g with ⟨_, g1, g2, g3, g4⟩ | ⟨g1, g2⟩
    · refine .inl ⟨g1, h1, h2, ?_, ?_, (lst_snoc _ _ _).symm, ?_⟩
      · rw [encL_snoc, pre_app, List.drop_drop, ← h4, ← h5]
        exact ⟨h3, g2⟩
      · rw [encL_snoc, List.length_append, ← h5, g3, h4, Nat.add_assoc]
      · intro x hx
        rcases List.mem_append.1 hx with hx | hx
        · exact h6 x hx
        · rw [List.mem_singleton.1 hx]; exact g4
    · refine .inr ⟨g1, fun m hm hp => ?_⟩
      unfold encB at hp
      rw [pre_app] at hp
      have e := pre_one _ _ _ h2 hp.1
      have hp2 := hp.2
      have hlm : l.length < m.length := by omega
      have hsplit : m = m.take l.length ++ m[l.length] :: m.drop (l.length + 1) := by
        rw [List.getElem_cons_drop, List.take_append_drop]
      rw [hsplit, encL_app, pre_app] at hp2
      have hmem : ∀ x ∈ m.take l.length, x.shape := fun x hx => shapes hm x (List.mem_of_mem_take hx)
      have hsz : (enc m.length).length = sz c := by rw [← e]; rfl
      rw [← hsplit, hsz, List.drop_drop] at hp2
      have e2 := encL_free [] l (m.take l.length) _ (by rw [List.length_take]; omega) h6 hmem h3 hp2.1
      have hp3 := hp2.2
      rw [← e2, List.drop_drop, ← h4, ← h5] at hp3
      show False
      unfold encL at hp3
      rw [pre_app] at hp3
      exact g2 rfl _ ((chkL_zero hm).2.2 _ (List.getElem_mem _)) hp3.1
  · rcases g with ⟨g, _⟩ | ⟨g1, _⟩
    · simp at g
    · exact .inr ⟨g1, h⟩

theorem la_end {bs : List Int} {a0 c a : Nat} {l : List Ov} {ah : List UInt8} (h : LA bs a0 c l a false ah) (hl : l.length = c) (hc : chkL l = 0) : BRes (bs.drop a0) l ((a : Int) - a0) 0 := by
  rcases h with ⟨_, h1, h2, h3, h4, _⟩ | ⟨h, _⟩
  · have e : encB l = enc c ++ encL [] l := by unfold encB; rw [hl]
    refine .inl ⟨rfl, hc, ?_, ?_⟩
    · rw [e, pre_app, List.drop_drop]; exact ⟨h2, h3⟩
    · rw [e, List.length_append, h4]
      unfold sz
      omega
  · simp at h

theorem la_bad {bs : List Int} {a0 c a : Nat} {l : List Ov} {ah : List UInt8} {bad : Bool} (h : LA bs a0 c l a bad ah) (hl : bad = false → l.length = c) (hc : bad = true ∨ chkL l ≠ 0) : BRes (bs.drop a0) [] 0 5 := by
  refine .inr ⟨rfl, rfl, rfl, ?_⟩
  rcases h with ⟨hb, h1, h2, h3, h4, _, h6⟩ | ⟨_, h⟩
  · rcases hc with hc | hc
    · rw [hc] at hb; simp at hb
    · intro m hm hp
      have e : encB l <+: bs.drop a0 := by
        unfold encB
        rw [hl hb, pre_app, List.drop_drop]
        exact ⟨h2, h3⟩
      have := encB_free e hp h6 (shapes hm)
      rw [this] at hc
      exact hc hm
  · exact h

/-- The document's order: the value, then how much is shared. -/
theorem doc_del {bs : List Int} {a a4 sh n : Nat} {bad bad4 bad' : Bool} {ah key : List UInt8} {zs : List Int} {o : Ov} (h : PS bs a bad ah 0 sh n zs a4 bad4) (hp : o.p = false) (hk : o.kl = key) (hkey : key = ah.take sh ++ byts zs) (hv : o.vl = []) (hb : bad' = (bad4 || decide (com ah key ≠ sh))) : OS bs a bad ah o a4 bad' := by
  cases bad4
  · by_cases hc : com ah key = sh
    · have : bad' = false := by rw [hb]; simp [hc]
      rw [this]
      exact os_del h hp (hk.trans hkey) hv (by rw [hk]; exact hc)
    · refine .inr ⟨by rw [hb]; simpa using hc, fun _ => os_com h (by rw [← hkey]; exact hc)⟩
  · rcases h with ⟨h, _⟩ | ⟨_, h⟩
    · simp at h
    · exact .inr ⟨by rw [hb]; rfl, h⟩

theorem doc_put {bs : List Int} (hby : ∀ z ∈ bs, 0 ≤ z ∧ z < 256) {a a4 a5 a6 sh n m : Nat} {bad bad4 bad5 bad6 bad' : Bool} {ah key : List UInt8} {zs ys : List Int} {o : Ov} (h : PS bs a bad ah 1 sh n zs a4 bad4) (hp : o.p = true) (hk : o.kl = key) (hkey : key = ah.take sh ++ byts zs) (hv : o.vl = byts ys)
    (g1 : SS bs 32 a4 bad4 m a5 bad5) (g2 : BS bs m a5 bad5 ys a6 bad6) (hb : bad' = (bad6 || decide (com ah key ≠ sh))) : OS bs a bad ah o a6 bad' := by
  cases bad4
  · by_cases hc : com ah key = sh
    · have : bad' = bad6 := by rw [hb]; simp [hc]
      rw [this]
      exact os_put hby h hp (hk.trans hkey) hv (by rw [hk]; exact hc) g1 g2
    · refine .inr ⟨by rw [hb]; simp [hc], fun _ => os_com h (by rw [← hkey]; exact hc)⟩
  · rcases h with ⟨h, _⟩ | ⟨_, h⟩
    · simp at h
    · exact .inr ⟨by rw [hb, bs_bad g2 (ss_bad g1 rfl)]; rfl, h⟩

/-- What Next comes to. -/
def NX (bs : List Int) (a : Nat) (bad : Bool) (l : List Ov) (a' : Nat) (bad' : Bool) : Prop :=
  (bad = true ∧ bad' = true ∧ l = []) ∨ (bad = false ∧ ((bad' = false ∧ BRes (bs.drop a) l ((a' : Int) - a) 0) ∨ (bad' = true ∧ l = [] ∧ BRes (bs.drop a) [] 0 5)))

end Bm

/-- An op that the document's reader has told is not too long. -/
def MidO (l : List Bm.Ov) : Prop := ∀ o ∈ l, o.k.size ≤ 1000 ∧ o.v.size ≤ 32

theorem MidO.fit {l : List Bm.Ov} (h : MidO l) : FitO l := fun o ho => by have := h o ho; omega

theorem MidO.snoc {l : List Bm.Ov} {o : Bm.Ov} (h : MidO l) (h1 : o.k.size ≤ 1000) (h2 : o.v.size ≤ 32) : MidO (l ++ [o]) := by
  intro x hx
  rcases List.mem_append.1 hx with hx | hx
  · exact h x hx
  · rw [List.mem_singleton.1 hx]; exact ⟨h1, h2⟩

/-- One round of the reader: the key's four steps. -/
theorem key_size {ah s : ByteArray} {bs zs : List Int} {sh n a a' : Nat} {bad bad' : Bool} (hs : s.data.toList = Om.byts zs) (hb : Bm.BS bs n a bad zs a' bad') (hn : n ≤ 16) (hsh : sh ≤ ah.size) : (ah.extract 0 sh ++ s).size ≤ ah.size + 16 ∧ (ah.extract 0 sh ++ s).data.toList = ah.data.toList.take sh ++ Om.byts zs := by
  have hdat : (ah.extract 0 sh ++ s).data.toList = ah.data.toList.take sh ++ Om.byts zs := by rw [← hs]; simp
  have := Bm.bs_le hb
  refine ⟨?_, hdat⟩
  rw [Lib.size_eq, hdat, List.length_append, Om.byts_len, List.length_take]
  omega

theorem grown_base {w V V' : World} {row : Option Nat} (h : w.grownBy V row) (hb : Below w.heap.size V V') : w.grownBy V' row :=
  ⟨hb.os.trans h.os, hb.tape.trans h.tape, hb.output.trans h.output, Nat.le_trans h.size hb.size, fun i hi hne => (hb.block i hi).trans (h.block i hi hne)⟩

/-- A text made of bytes. -/
theorem text_of (zs : List Int) : ∃ s : ByteArray, (⟨(Om.byts zs).toArray⟩ : ByteArray) = s ∧ s.data.toList = Om.byts zs := ⟨_, rfl, rfl⟩

end Go.Proofs.YtkpnkknolobioaaGreat

/- The contracts of the program's read and Decode of a commit. -/
namespace Go.Proofs.YtkpnkknolobioaaGreat
open Go.RowKit
set_option linter.unusedVariables false

/-- What read comes to. -/
def RRes (bs : List Int) (e n : Int) (l : List Bm.Ov) (k g : Int) : Prop :=
  (g = 0 ∧ ∃ x y : Nat, x ≤ 1048576 ∧ y ≤ 1048576 ∧ Vm.enc x <+: bs ∧ Vm.enc y <+: bs.drop (Vm.sz x) ∧ Bm.chkL l = 0 ∧ Bm.encB l <+: bs.drop (Vm.sz x + Vm.sz y) ∧ e = x ∧ n = y ∧ k = ((Vm.sz x + Vm.sz y + (Bm.encB l).length : Nat) : Int)) ∨
  (g = 5 ∧ e = 0 ∧ n = 0 ∧ l = [] ∧ k = 0 ∧ ∀ e' n' l', Cm.chk e' n' l' = 0 → Cm.encC e' n' l' ≠ bs)

theorem sres_num {bs : List Int} {u i g : Int} (h : SRes bs 1048576 u i g) :
    (g = 0 ∧ ∃ x s : Nat, x ≤ 1048576 ∧ Vm.enc x <+: bs ∧ Vm.sz x = s ∧ u = x ∧ i = s ∧ s ≤ bs.length ∧ s ≤ 10) ∨ (g = 5 ∧ u = 0 ∧ i = 0 ∧ Cm.NoNum bs) := by
  rcases h with ⟨hR, _, h2, rfl⟩ | ⟨rfl, rfl, rfl, x, n, e, hR, hx⟩
  · have hb := Vm.res_bounds hR
    rcases hR with ⟨x, h3, h4, rfl, rfl, _⟩ | ⟨_, _, _, h⟩
    · exact .inl ⟨rfl, x, _, by omega, h4, rfl, rfl, rfl, by omega, by omega⟩
    · simp at h
  · refine .inr ⟨rfl, rfl, rfl, fun y hy hp => ?_⟩
    obtain ⟨e1, e2, e3⟩ := Vm.res_good hR (by omega) hp
    omega

set_option maxHeartbeats 1000000 in
theorem cread_any (vb : Value) (bs : List Int) (w : World) (hb : Is .u8 w vb bs) (hl : bs.length ≤ 140737488355328) :
    Calls Tryz.prog 105 #[vb] w fun E w' => ∃ (e n k g : Int) (v : Value) (l : List Bm.Ov), E = .returned (.tuple #[cmv e n v, .int .i64 k, .int .i64 g]) ∧ OwnO 93 w.heap.size w' v l ∧ RRes bs e n l k g ∧ Below w.heap.size w w' := by
  unfold cmv
  obtain ⟨w1, hw1, sz1, bel1, hB⟩ := blk_step w #[.int .i64 0, .int .i64 0, .slice none 0 0] 59
  have hb1 := hb.below bel1
  obtain ⟨u, i, g, hS⟩ := sres_is bs 1048576
  obtain ⟨ao, cap, rfl, _, _⟩ := hb.shape
  obtain ⟨Z, hZ, bZ, gZ, ⟨a0, a1, a2⟩, ⟨f0, f1, f2⟩, ⟨z0, z1, z2⟩⟩ := res_step hB (.int .i64 0) (.int .i64 0) (.slice none 0 0)
  have belZ := below_put bel1 gZ (Nat.le_refl _) (by omega)
  have HB := hide hB
  have HS := hide hS
  clear hB bZ gZ
  go_enter Tryz.func105, Tryz.ntmps105
  go_wp2_with fail
  refine (small_any _ bs 1048576 u i g _ hb1 (by omega) (by omega) (by omega) HS.out).mono ?_
  rintro E w2 ⟨rfl, rfl⟩
  rcases sres_num HS.out with ⟨rfl, x, s, hx, px, hsx, rfl, rfl, hsl, hs10⟩ | ⟨rfl, rfl, rfl, hN⟩
  · obtain ⟨vs, hvs, isl⟩ := hb1.slice_l Tryz.elemP Tryz.sizeP s hsl
    obtain ⟨u, i, g, hS2⟩ := sres_is (bs.drop s) 1048576
    have HX : Hid (Vm.enc x <+: bs ∧ Vm.sz x = s) := ⟨px, hsx⟩
    have HS2 := hide hS2
    clear px hsx hS2 HS
    go_wp2_with fail
    refine (small_any _ _ 1048576 u i g _ isl (by rw [List.length_drop]; omega) (by omega) (by omega) HS2.out).mono ?_
    rintro E w2 ⟨rfl, rfl⟩
    rcases sres_num HS2.out with ⟨rfl, y, r, hy, py, hsy, rfl, rfl, hrl, hr10⟩ | ⟨rfl, rfl, rfl, hN⟩
    · rw [List.length_drop] at hrl
      obtain ⟨vr, hvr, isr⟩ := hb1.slice_l Tryz.elemP Tryz.sizeP (s + r) (by omega)
      have HY : Hid (Vm.enc y <+: bs.drop s ∧ Vm.sz y = r) := ⟨py, hsy⟩
      push_cast at hvr
      clear py hsy HS2
      go_wp2_with fail
      refine (bread_any vr _ _ isr (by rw [List.length_drop]; omega)).mono ?_
      rintro E w3 ⟨vl, l, k, e, rfl, ownl, hR, bel3⟩
      have sz3 := bel3.size
      have hB3 := (bel3.block w.heap.size (by omega)).trans HB.out
      have bel03 := bel1.trans (bel3.mono (by omega))
      obtain ⟨px, hsx⟩ := HX.out
      obtain ⟨py, hsy⟩ := HY.out
      clear HX HY hZ a0 a1 a2 f0 f1 f2 z0 z1 z2 belZ bel1 bel3 hb1 isl isr hvs hvr hb
      rcases hR with ⟨rfl, hc, hp, rfl⟩ | ⟨rfl, rfl, rfl, hno⟩
      · obtain ⟨ah, ch, hvl, _, _⟩ := ownl.is.shape
        subst hvl
        have hpl := hp.length_le
        rw [List.length_drop] at hpl
        obtain ⟨V, hV, bV, gV, ⟨a0, a1, a2⟩, ⟨f0, f1, f2⟩, ⟨z0, z1, z2⟩⟩ := res_step hB3 (.int .i64 x) (.int .i64 y) (.slice ah l.length ch)
        have belV := below_put bel03 gV (Nat.le_refl _) (by omega)
        have ownV := (ownl.keptg gV (by omega)).rebase (base' := w.heap.size) (by omega)
        have HR : Hid (RRes bs x y l ((s + r + (Bm.encB l).length : Nat) : Int) 0) := hide (.inl ⟨rfl, x, y, hx, hy, px, by rw [hsx]; exact py, hc, by rw [hsx, hsy]; exact hp, rfl, rfl, by rw [hsx, hsy]⟩)
        clear px py hsx hsy hc hp bV gV hB3 ownl bel03
        go_wp2
        refine bodyPost_ret (v := .tuple #[.agg #[.int .i64 x, .int .i64 y, .slice ah l.length ch], .int .i64 ((s + r + (Bm.encB l).length : Nat) : Int), .int .i64 0]) (by simp [results, Tryz.results105, go_sem, z0, z1, z2]) rfl ?_
        exact ⟨_, _, _, _, _, _, rfl, ownV, HR.out, belV⟩
      · obtain ⟨V, hV, bV, gV, ⟨a0, a1, a2⟩, ⟨f0, f1, f2⟩, ⟨z0, z1, z2⟩⟩ := res_step hB3 (.int .i64 0) (.int .i64 0) (.slice none 0 0)
        have belV := below_put bel03 gV (Nat.le_refl _) (by omega)
        have HR : Hid (RRes bs 0 0 [] 0 5) := hide (.inr ⟨rfl, rfl, rfl, rfl, rfl, Cm.no_batch px (by rw [hsx]; exact py) (by rw [hsx, hsy]; exact hno)⟩)
        clear px py hsx hsy hno bV gV hB3 ownl bel03
        go_wp2
        refine bodyPost_ret (v := .tuple #[.agg #[.int .i64 0, .int .i64 0, .slice none 0 0], .int .i64 0, .int .i64 5]) (by simp [results, Tryz.results105, go_sem, z0, z1, z2]) rfl ?_
        exact ⟨_, _, _, _, _, _, rfl, OwnO.nil _ _ _, HR.out, belV⟩
    · have HR : Hid (RRes bs 0 0 [] 0 5) := hide (.inr ⟨rfl, rfl, rfl, rfl, rfl, Cm.no_number HX.out.1 (by rw [HX.out.2]; exact hN)⟩)
      clear hN HS2 HX
      go_wp2
      refine bodyPost_ret (v := .tuple #[.agg #[.int .i64 0, .int .i64 0, .slice none 0 0], .int .i64 0, .int .i64 5]) (by simp [results, Tryz.results105, go_sem, z0, z1, z2]) rfl ?_
      exact ⟨_, _, _, _, _, _, rfl, OwnO.nil _ _ _, HR.out, belZ⟩
  · have HR : Hid (RRes bs 0 0 [] 0 5) := hide (.inr ⟨rfl, rfl, rfl, rfl, rfl, Cm.no_epoch hN⟩)
    clear hN HS
    go_wp2
    refine bodyPost_ret (v := .tuple #[.agg #[.int .i64 0, .int .i64 0, .slice none 0 0], .int .i64 0, .int .i64 5]) (by simp [results, Tryz.results105, go_sem, z0, z1, z2]) rfl ?_
    exact ⟨_, _, _, _, _, _, rfl, OwnO.nil _ _ _, HR.out, belZ⟩

end Go.Proofs.YtkpnkknolobioaaGreat

/- Rows of anything in memory, k cells each: what a slice of them reads as ('RowG'), one of the call's own ('OwnG'), an append between the two. No program. -/
namespace Go.Proofs.YtkpnkknolobioaaGreat
open Go.RowKit
set_option linter.unusedVariables false

section
variable {α : Type}

def gcells (f : α → List Value) : List α → List Value
  | [] => []
  | a :: r => f a ++ gcells f r

theorem gcells_len {f : α → List Value} {k : Nat} (hk : ∀ a, (f a).length = k) : ∀ (l : List α), (gcells f l).length = l.length * k
  | [] => by simp [gcells]
  | a :: r => by rw [gcells, List.length_append, hk, gcells_len hk r, List.length_cons, Nat.add_mul]; omega

theorem gcells_app (f : α → List Value) : ∀ (l m : List α), gcells f (l ++ m) = gcells f l ++ gcells f m
  | [], _ => rfl
  | a :: l, m => by simp only [List.cons_append, gcells, gcells_app f l m, List.append_assoc]

theorem gcells_at {f : α → List Value} {k : Nat} (hk : ∀ a, (f a).length = k) : ∀ (l : List α) (i : Nat) (a : α), l[i]? = some a → ∀ j u, (f a)[j]? = some u → (gcells f l)[i * k + j]? = some u
  | [], _, _, h, _, _, _ => by simp at h
  | b :: r, 0, a, h, j, u, hj => by
    simp at h
    subst h
    have := (List.getElem?_eq_some_iff.1 hj).1
    rw [gcells, Nat.zero_mul, Nat.zero_add, List.getElem?_append_left this]
    exact hj
  | b :: r, i + 1, a, h, j, u, hj => by
    have := gcells_at hk r i a (by simpa using h) j u hj
    rw [gcells, List.getElem?_append_right (by rw [hk, Nat.add_mul]; omega), hk, show (i + 1) * k + j - k = i * k + j by rw [Nat.add_mul]; omega]
    exact this

theorem gcells_take {f : α → List Value} {k : Nat} (hk : ∀ a, (f a).length = k) : ∀ (l : List α) (p : Nat), gcells f (l.take p) = (gcells f l).take (p * k)
  | [], p => by simp [gcells]
  | a :: l, 0 => by simp [gcells]
  | a :: l, p + 1 => by
    have h1 : (f a).take ((p + 1) * k) = f a := List.take_of_length_le (by rw [hk, Nat.add_mul]; omega)
    have h2 : (p + 1) * k - k = p * k := by rw [Nat.add_mul]; omega
    rw [List.take_succ_cons, gcells, gcells, gcells_take hk l p, List.take_append, hk, h1, h2]

theorem gcells_drop {f : α → List Value} {k : Nat} (hk : ∀ a, (f a).length = k) : ∀ (l : List α) (p : Nat), gcells f (l.drop p) = (gcells f l).drop (p * k)
  | [], p => by simp [gcells]
  | a :: l, 0 => by simp [gcells]
  | a :: l, p + 1 => by
    have h1 : (f a).drop ((p + 1) * k) = [] := List.drop_eq_nil_of_le (by rw [hk, Nat.add_mul]; omega)
    have h2 : (p + 1) * k - k = p * k := by rw [Nat.add_mul]; omega
    rw [List.drop_succ_cons, gcells_drop hk l p, gcells, List.drop_append, hk, h1, h2, List.nil_append]

theorem gcells_set {f : α → List Value} {k : Nat} (hk : ∀ a, (f a).length = k) : ∀ (l : List α) (i : Nat) (a b : α), l[i]? = some a → ∀ j u, j < k → (f a).set j u = f b → (gcells f l).set (i * k + j) u = gcells f (l.set i b)
  | [], _, _, _, h, _, _, _, _ => by simp at h
  | c :: r, 0, a, b, h, j, u, hj, hb => by
    simp at h
    subst h
    rw [gcells, Nat.zero_mul, Nat.zero_add, List.set_append_left _ _ (by rw [hk]; exact hj), hb]
    rfl
  | c :: r, i + 1, a, b, h, j, u, hj, hb => by
    rw [gcells, List.set_append_right _ _ (by rw [hk, Nat.add_mul]; omega), hk, show (i + 1) * k + j - k = i * k + j by rw [Nat.add_mul]; omega, gcells_set hk r i a b (by simpa using h) j u hj hb]
    rfl

/-- A slice value whose cells are those of l. -/
def RowG (f : α → List Value) (w : World) (v : Value) (l : List α) : Prop :=
  (v = .slice none 0 0 ∧ l = []) ∨ ∃ ad cap, v = .slice (some ad) l.length cap ∧ l.length ≤ cap ∧ cap ≤ maxLen ∧ ∀ j u, (gcells f l)[j]? = some u → w.cell? (ad.add j) = some u

/-- A row of the call's (the object's) own. -/
def OwnG (f : α → List Value) (k : Nat) (e : TypeId) (base : Nat) (w : World) (v : Value) (l : List α) : Prop := w.ownsRow base e k v l.length (gcells f l)

theorem RowG.nil (f : α → List Value) (w : World) : RowG f w (.slice none 0 0) [] := .inl ⟨rfl, rfl⟩
theorem OwnG.nil (f : α → List Value) (k : Nat) (e : TypeId) (base : Nat) (w : World) : OwnG f k e base w (.slice none 0 0) [] := World.ownsRow_nil _ _ _ _

theorem RowG.agree {f : α → List Value} {w w' : World} {v : Value} {l : List α} (h : RowG f w v l) (hb : ∀ b, v.ownBlock = some b → w'.heap[b]? = w.heap[b]?) : RowG f w' v l := by
  rcases h with h | ⟨ad, cap, hv, h1, h2, hc⟩
  · exact .inl h
  · refine .inr ⟨ad, cap, hv, h1, h2, fun j u hj => ?_⟩
    rw [World.cell?_of_block (show w'.heap[(ad.add j).block]? = w.heap[(ad.add j).block]? from ?_)]
    · exact hc j u hj
    · have e : (ad.add j).block = ad.block := by unfold Addr.add; split <;> rfl
      rw [e]
      exact hb ad.block (by rw [hv]; rfl)

theorem RowG.below {f : α → List Value} {w w' : World} {v : Value} {l : List α} (h : RowG f w v l) (hb : Below w.heap.size w w') : RowG f w' v l := by
  rcases h with h | ⟨ad, cap, hv, h1, h2, hc⟩
  · exact .inl h
  · refine .inr ⟨ad, cap, hv, h1, h2, fun j u hj => ?_⟩
    have := hc j u hj
    rw [hb.cell (World.block_lt_of_cell? _ _ this)]
    exact this

theorem RowG.shape {f : α → List Value} {w : World} {v : Value} {l : List α} (h : RowG f w v l) : ∃ ao cap, v = .slice ao l.length cap ∧ l.length ≤ cap ∧ cap ≤ maxLen := by
  rcases h with ⟨hv, e⟩ | ⟨ad, cap, hv, h1, h2, _⟩
  · subst e; exact ⟨none, 0, hv, by simp, by simp⟩
  · exact ⟨some ad, cap, hv, h1, h2⟩

theorem RowG.full {f : α → List Value} {k : Nat} (hk : ∀ a, (f a).length = k) (h0 : 0 < k) {w : World} {v : Value} {l : List α} (h : RowG f w v l) (hne : 0 < l.length) :
    ∃ b off cap, v = .slice (some ⟨b, off, none⟩) l.length cap ∧ l.length ≤ cap ∧ cap ≤ maxLen ∧ b < w.heap.size ∧ ∀ i a, l[i]? = some a → ∀ j u, (f a)[j]? = some u → w.cell? ⟨b, off + i * k + j, none⟩ = some u := by
  rcases h with ⟨_, h⟩ | ⟨⟨b, off, spot⟩, cap, hv, h1, h2, hc⟩
  · subst h; simp at hne
  · obtain ⟨a0, ha0⟩ : ∃ a, l[0]? = some a := ⟨l[0], by rw [List.getElem?_eq_getElem]⟩
    have hf0 : (f a0)[0]? = some ((f a0)[0]'(by rw [hk]; exact h0)) := List.getElem?_eq_getElem (by rw [hk]; exact h0)
    have g0 := hc _ _ (gcells_at hk l 0 a0 ha0 0 _ hf0)
    have hspot : spot = none := by simpa [Addr.add] using World.cell?_spot g0
    subst hspot
    rw [add_at] at g0
    refine ⟨b, off, cap, hv, h1, h2, World.block_lt_of_cell? _ _ g0, fun i a hia j u hj => ?_⟩
    have := hc _ _ (gcells_at hk l i a hia j u hj)
    rw [add_at] at this
    rw [Nat.add_assoc]
    exact this

theorem OwnG.row {f : α → List Value} {k e base : Nat} {w : World} {v : Value} {l : List α} (h : OwnG f k e base w v l) : RowG f w v l := by
  rcases h.2 with ⟨hv, hn⟩ | ⟨g, cap, cur, hv, h1, hh, hc, hm, hs, ht⟩
  · exact .inl ⟨hv, List.eq_nil_of_length_eq_zero hn⟩
  · refine .inr ⟨⟨g, 0, none⟩, cap, hv, hc, hm, fun j u hj => ?_⟩
    exact h.cells (by rw [hv]; rfl) j u hj

theorem OwnG.agree {f : α → List Value} {k e base : Nat} {w w' : World} {v : Value} {l : List α} (h : OwnG f k e base w v l) (hb : ∀ b, v.ownBlock = some b → w'.heap[b]? = w.heap[b]?) : OwnG f k e base w' v l := row_agree h hb

theorem OwnG.lt {f : α → List Value} {k e base : Nat} {w : World} {v : Value} {l : List α} (h : OwnG f k e base w v l) : ∀ b, v.ownBlock = some b → base ≤ b ∧ b < w.heap.size := World.ownsRow.lt h

theorem OwnG.type {f : α → List Value} {k e base : Nat} {w : World} {v : Value} {l : List α} (h : OwnG f k e base w v l) {g : Nat} (hg : v.ownBlock = some g) : ∃ cs, w.heap[g]? = some (.cells cs e (0, 0)) := by
  rcases h.2 with ⟨rfl, _⟩ | ⟨g', cap, cur, rfl, _, hh, _⟩
  · simp [Value.ownBlock] at hg
  · simp [Value.ownBlock] at hg
    subst hg
    exact ⟨_, hh⟩

/-- Laid in a new block. -/
theorem rows_step (f : α → List Value) (k : Nat) (hk : ∀ a, (f a).length = k) (e : TypeId) (w : World) (cs : Array Value) (n : Nat) (l : List α) (hn : l.length = n) (h : cs.toList = gcells f l) (hm : n ≤ maxLen) :
    ∃ W, w.alloc (.cells cs e) = W ∧ W.heap.size = w.heap.size + 1 ∧ Below w.heap.size w W ∧ OwnG f k e w.heap.size W (.slice (some ⟨w.heap.size, 0, none⟩) n n) l := by
  subst hn
  refine ⟨_, rfl, by simp, (Below.refl _ _).alloc (Nat.le_refl _) _, ?_⟩
  have ho := World.ownsRow_lit (base := w.heap.size) (e := e) (size := k) w cs l.length (Nat.le_refl _) hm (by have := congrArg List.length h; rw [gcells_len hk] at this; simpa using this)
  rw [h] at ho
  exact ho

variable {P : Program} {w : World} {ops : Array Oper} {rest : List Oper} {o : Oper} {a : Act} {Q : Exit → Act → World → Prop}

/-- 'out = append(out, xs...)': out nil or an own row. -/
theorem wpList_append_rows (f : α → List Value) (k bytes : Nat) (hk : ∀ a, (f a).length = k) (h0 : 0 < k) (hb0 : 0 < bytes) (z : Value) (hzk : z.cells.size = k) (hgd : o.guard = none) (s x : Operand) (t : TypeId)
    (ho : o.op = .call { callee := .builtin .append, args := #[s, x], argTypes := #[t, t] })
    (e : TypeId) (base : Nat) (ht : P.underlying t = some (.slice e)) (hinfo : (P.info? e).map (fun i => (i.zero, i.size, i.bytes)) = some (some z, k, bytes))
    (v : Value) (l : List α) (hs : a.eval s = v) (hown : OwnG f k e base w v l) (vx : Value) (m : List α) (hx : a.eval x = vx) (his : RowG f w vx m) (hone : ∀ u ∈ gcells f m, u.oneCell' = true)
    (hlen : (l.length + m.length) * bytes ≤ 140737488355328) (hbase : base ≤ w.heap.size)
    (h : ∀ v' w', OwnG f k e base w' v' (l ++ m) → w.grownBy w' v.ownBlock → wpList P ops Q rest (a.put o.dst v') w') : wpList P ops Q (o :: rest) a w := by
  obtain ⟨i, hi, hz, hsize, hb⟩ := info_parts hinfo
  have hn : l.length + m.length ≤ 140737488355328 := Nat.le_trans (Nat.le_mul_of_pos_right _ hb0) hlen
  rcases his with ⟨hv, hy⟩ | ⟨ad, cap, hv, h1, h2, hc⟩
  · subst hy
    refine wpList_append_own_none hgd s x t ho base e i k ht hi v l.length _ hs hown (hx.trans hv) (h v w (by simpa using hown) (World.grownBy.refl _ _))
  · refine wpList_append_own w hgd s x t ho base e i z k bytes ht hi hz hsize hb hzk h0 v l.length _ hs hown ad m.length cap (gcells f m) (hx.trans hv) (gcells_len hk m) hc hone (by unfold maxLen; omega) hlen hbase ?_
    intro v' w' ho' hg _
    exact h v' w' (by unfold OwnG; rw [gcells_app, List.length_append]; exact ho') hg

/-- The same inside a region that draws its order. -/
theorem step_append_rows {K : Act → World → Prop} {E : Prop} (f : α → List Value) (k bytes : Nat) (hk : ∀ a, (f a).length = k) (h0 : 0 < k) (hb0 : 0 < bytes) (z : Value) (hzk : z.cells.size = k) (hgd : o.guard = none) (s x : Operand) (t : TypeId)
    (ho : o.op = .call { callee := .builtin .append, args := #[s, x], argTypes := #[t, t] })
    (e : TypeId) (base : Nat) (ht : P.underlying t = some (.slice e)) (hinfo : (P.info? e).map (fun i => (i.zero, i.size, i.bytes)) = some (some z, k, bytes))
    (v : Value) (l : List α) (hs : a.eval s = v) (hown : OwnG f k e base w v l) (vx : Value) (m : List α) (hx : a.eval x = vx) (his : RowG f w vx m) (hone : ∀ u ∈ gcells f m, u.oneCell' = true)
    (hlen : (l.length + m.length) * bytes ≤ 140737488355328) (hbase : base ≤ w.heap.size)
    (h : ∀ v' w', OwnG f k e base w' v' (l ++ m) → w.grownBy w' v.ownBlock → K (a.put o.dst v') w') :
    if Region.wanted o (yielded ops a.tmps) = true then Oper.wp P o a w K Q else E := by
  have hw : Region.wanted o (yielded ops a.tmps) = true := by simp [Region.wanted, hgd]
  rw [if_pos hw]
  obtain ⟨i, hi, hz, hsize, hb⟩ := info_parts hinfo
  have hn : l.length + m.length ≤ 140737488355328 := Nat.le_trans (Nat.le_mul_of_pos_right _ hb0) hlen
  rcases his with ⟨hv, hy⟩ | ⟨ad, cap, hv, h1, h2, hc⟩
  · subst hy
    have hrun := run_append_owned_none (P := P) (w := w) base t o.type e i k ht hi v l.length _ hown
    have hk := h v w (by simpa using hown) (World.grownBy.refl _ _)
    unfold Oper.wp
    simp [execOp, ho, resolve, invoke, builtin, hs, hx.trans hv, hrun, Result.andThen]
    exact hk
  · refine wp_append_own w s x t ho base e i z k bytes ht hi hz hsize hb hzk h0 v l.length _ hs hown ad m.length cap (gcells f m) (hx.trans hv) (gcells_len hk m) hc hone (by unfold maxLen; omega) hlen hbase ?_
    intro v' w' ho' hg _
    exact h v' w' (by unfold OwnG; rw [gcells_app, List.length_append]; exact ho') hg

end

end Go.Proofs.YtkpnkknolobioaaGreat

/- Appends to a row of an object's own, told as one fact of the operation, with where the new row lies. No program. -/
namespace Go.Proofs.YtkpnkknolobioaaGreat
open Go.RowKit
set_option linter.unusedVariables false

section
variable {P : Program} {w : World}

/-- 'append(out, xs...)' of integers. -/
theorem run_append_is_at (t ty : TypeId) (k : IntKind) (e : TypeId) (base bytes : Nat) (ht : P.underlying t = some (.slice e)) (hinfo : (P.info? e).map (fun i => (i.zero, i.size, i.bytes)) = some (some (.int k 0), 1, bytes)) (hby : 0 < bytes)
    (v : Value) (zs : List Int) (hown : Own k e base w v zs) (vx : Value) (ys : List Int) (his : Is k w vx ys) (hlen : (zs.length + ys.length) * bytes ≤ 140737488355328) (hbase : base ≤ w.heap.size) :
    ∃ v' w', (Builtin.append_ #[t, t] ty #[v, vx]).run P w = .ok v' w' ∧ Own k e base w' v' (zs ++ ys) ∧ w.grownBy w' v.ownBlock ∧ (v'.ownBlock = v.ownBlock ∨ v'.ownBlock = some w.heap.size) := by
  obtain ⟨i, hi, hz, hsize, hb⟩ := info_parts hinfo
  have hn : zs.length + ys.length ≤ 140737488355328 := Nat.le_trans (Nat.le_mul_of_pos_right _ hby) hlen
  have hwf : ∀ z ∈ zs ++ ys, (Lit.int k z).wf = true := by
    intro z hz
    rcases List.mem_append.1 hz with hz | hz
    · exact hown.1 z hz
    · exact his.1 z hz
  rcases his.2 with ⟨hv, hy⟩ | ⟨ad, cap, hv, h1, h2, hc⟩
  · subst hy hv
    have hrun := run_append_owned_none (P := P) (w := w) base t ty e i 1 ht hi v zs.length _ hown.2
    exact ⟨v, w, hrun, ⟨hwf, by simpa using hown.2⟩, World.grownBy.refl _ _, .inl rfl⟩
  · subst hv
    obtain ⟨v', w', hr, h3, h4, _, h5⟩ := run_append_own_at (P := P) w base t ty e i (.int k 0) 1 bytes ht hi hz hsize hb rfl (by decide) v zs.length _ hown.2 ad ys.length cap (ys.map (Value.int k)) (by simp) (by
      intro j u hj
      rw [List.getElem?_map, Option.map_eq_some_iff] at hj
      obtain ⟨z, hz, rfl⟩ := hj
      obtain ⟨hj, hz⟩ := List.getElem?_eq_some_iff.1 hz
      rw [hc j hj, List.getD_eq_getElem?_getD, List.getElem?_eq_getElem hj, hz]
      rfl) (ints_oneCell k ys) (by unfold maxLen; omega) hlen hbase
    exact ⟨v', w', hr, ⟨hwf, by simpa [List.map_append] using h3⟩, h4, h5⟩

/-- 'append(out, xs...)' of anything. -/
theorem run_append_rows_at {α : Type} (t ty : TypeId) (f : α → List Value) (k bytes : Nat) (hk : ∀ a, (f a).length = k) (h0 : 0 < k) (hb0 : 0 < bytes) (z : Value) (hzk : z.cells.size = k)
    (e : TypeId) (base : Nat) (ht : P.underlying t = some (.slice e)) (hinfo : (P.info? e).map (fun i => (i.zero, i.size, i.bytes)) = some (some z, k, bytes))
    (v : Value) (l : List α) (hown : OwnG f k e base w v l) (vx : Value) (m : List α) (his : RowG f w vx m) (hone : ∀ u ∈ gcells f m, u.oneCell' = true)
    (hlen : (l.length + m.length) * bytes ≤ 140737488355328) (hbase : base ≤ w.heap.size) :
    ∃ v' w', (Builtin.append_ #[t, t] ty #[v, vx]).run P w = .ok v' w' ∧ OwnG f k e base w' v' (l ++ m) ∧ w.grownBy w' v.ownBlock ∧ (v'.ownBlock = v.ownBlock ∨ v'.ownBlock = some w.heap.size) := by
  obtain ⟨i, hi, hz, hsize, hb⟩ := info_parts hinfo
  have hn : l.length + m.length ≤ 140737488355328 := Nat.le_trans (Nat.le_mul_of_pos_right _ hb0) hlen
  rcases his with ⟨hv, hy⟩ | ⟨ad, cap, hv, h1, h2, hc⟩
  · subst hy hv
    have hrun := run_append_owned_none (P := P) (w := w) base t ty e i k ht hi v l.length _ hown
    exact ⟨v, w, hrun, by simpa using hown, World.grownBy.refl _ _, .inl rfl⟩
  · subst hv
    obtain ⟨v', w', hr, h3, h4, _, h5⟩ := run_append_own_at (P := P) w base t ty e i z k bytes ht hi hz hsize hb hzk h0 v l.length _ hown ad m.length cap (gcells f m) (gcells_len hk m) hc hone (by unfold maxLen; omega) hlen hbase
    exact ⟨v', w', hr, by unfold OwnG; rw [gcells_app, List.length_append]; exact h3, h4, h5⟩

end

/-- A row's front: 'v[:p]'. -/
theorem own_cut {w : World} {base e size g n cap : Nat} {xs : List Value} (h : w.ownsRow base e size (.slice (some ⟨g, 0, none⟩) n cap) n xs) (m : Nat) (hm : m ≤ n) : w.ownsRow base e size (.slice (some ⟨g, 0, none⟩) m cap) m (xs.take (m * size)) := by
  obtain ⟨h1, h2⟩ := h
  have hle : m * size ≤ n * size := Nat.mul_le_mul_right _ hm
  refine ⟨by rw [List.length_take]; omega, ?_⟩
  rcases h2 with ⟨h', _⟩ | ⟨g', cap', cur, h', hb, hg, hnc, hcm, hcs, htake⟩
  · simp at h'
  · simp only [Value.slice.injEq, Option.some.injEq, Addr.mk.injEq, and_true, true_and] at h'
    obtain ⟨rfl, rfl⟩ := h'
    refine .inr ⟨g, cap, cur, rfl, hb, hg, by omega, hcm, hcs, ?_⟩
    rw [← htake, List.take_take]
    congr 1
    omega

theorem Own.agree {k : IntKind} {e : TypeId} {base : Nat} {w w' : World} {v : Value} {zs : List Int} (h : Own k e base w v zs) (hb : ∀ b, v.ownBlock = some b → w'.heap[b]? = w.heap[b]?) : Own k e base w' v zs := ⟨h.1, row_agree h.2 hb⟩

theorem Own.type {k : IntKind} {e base : Nat} {w : World} {v : Value} {zs : List Int} (h : Own k e base w v zs) {g : Nat} (hg : v.ownBlock = some g) : ∃ cs, w.heap[g]? = some (.cells cs e (0, 0)) := by
  rcases h.2.2 with ⟨rfl, _⟩ | ⟨g', cap, cur, rfl, _, hh, _⟩
  · simp [Value.ownBlock] at hg
  · simp [Value.ownBlock] at hg
    subst hg
    exact ⟨_, hh⟩

/-- 'v[:p]' of an own row of integers: an own row. -/
theorem Own.slice_h {P : Program} {k : IntKind} {e base : Nat} {w : World} {v : Value} {zs : List Int} (h : Own k e base w v zs) {t : TypeId} (ht : P.underlying t = some (.slice (P.elem t))) (hs : ∀ wx, (sizeOf (P.elem t)).run P wx = .ok 1 wx) (p : Nat) (hp : p ≤ zs.length) :
    ∃ vs, (∀ wx, (Instr.slice t v none (some (.int .i64 p)) none).run P wx = .ok vs wx) ∧ Own k e base w vs (zs.take p) ∧ (∀ b, vs.ownBlock = some b → v.ownBlock = some b) := by
  have hwf : ∀ z ∈ zs.take p, (Lit.int k z).wf = true := fun z hz => h.1 z (List.mem_of_mem_take hz)
  have hl : (zs.take p).length = p := by rw [List.length_take]; omega
  rcases h.2.2 with ⟨rfl, hn⟩ | ⟨g, cap, cur, rfl, hb, hg, hnc, hcm, hcs, htake⟩
  · obtain rfl : p = 0 := by omega
    refine ⟨.slice none 0 0, fun wx => ?_, ⟨hwf, by rw [hl]; simpa using World.ownsRow_nil w base e 1⟩, fun b hb => hb⟩
    rw [run_slice_h wx t none 0 0 ht .i64 _ (by omega) (by omega)]
    simp [Result.andThen, sliced, hs]
  · refine ⟨.slice (some ⟨g, 0, none⟩) p cap, fun wx => ?_, ⟨hwf, ?_⟩, fun b hb => hb⟩
    · rw [run_slice_h wx t _ zs.length cap ht .i64 _ (by omega) (by omega)]
      simp [Result.andThen, sliced, hs, Addr.add]
    · have := own_cut h.2 p hp
      rw [hl, List.map_take]
      simpa using this

section
variable {P : Program} {w : World} {ops : Array Oper} {rest : List Oper} {o : Oper} {a : Act} {Q : Exit → Act → World → Prop}

/-- An append whose answer is known. -/
theorem wpList_append_at (hgd : o.guard = none) (s x : Operand) (t : TypeId) (ho : o.op = .call { callee := .builtin .append, args := #[s, x], argTypes := #[t, t] })
    (v vx : Value) (hs : a.eval s = v) (hx : a.eval x = vx) {R : Value → World → Prop} (hrun : ∀ ty, ∃ v' w', (Builtin.append_ #[t, t] ty #[v, vx]).run P w = .ok v' w' ∧ R v' w')
    (h : ∀ v' w', R v' w' → wpList P ops Q rest (a.put o.dst v') w') : wpList P ops Q (o :: rest) a w := by
  refine wpList_plain hgd fun K hK => ?_
  obtain ⟨v', w', hr, hR⟩ := hrun o.type
  unfold Oper.wp execOp
  simp only [ho, resolve, invoke, builtin, Sem.run_bind, Sem.run_pure, Result.andThen_ok, List.map_toArray, List.map_cons, List.map_nil, hs, hx, hr]
  exact hK _ _ (h v' w' hR)

theorem step_append_at {K : Act → World → Prop} {E : Prop} (hgd : o.guard = none) (s x : Operand) (t : TypeId) (ho : o.op = .call { callee := .builtin .append, args := #[s, x], argTypes := #[t, t] })
    (v vx : Value) (hs : a.eval s = v) (hx : a.eval x = vx) {R : Value → World → Prop} (hrun : ∀ ty, ∃ v' w', (Builtin.append_ #[t, t] ty #[v, vx]).run P w = .ok v' w' ∧ R v' w')
    (h : ∀ v' w', R v' w' → K (a.put o.dst v') w') : if Region.wanted o (yielded ops a.tmps) = true then Oper.wp P o a w K Q else E := by
  have hw : Region.wanted o (yielded ops a.tmps) = true := by simp [Region.wanted, hgd]
  rw [if_pos hw]
  obtain ⟨v', w', hr, hR⟩ := hrun o.type
  unfold Oper.wp execOp
  simp only [ho, resolve, invoke, builtin, Sem.run_bind, Sem.run_pure, Result.andThen_ok, List.map_toArray, List.map_cons, List.map_nil, hs, hx, hr]
  exact h v' w' hR

/-- A call inside a region that draws its order. -/
theorem call_at {K : Act → World → Prop} {E : Prop} (hgd : o.guard = none) (f : FuncId) (args : Array Operand) (ts : Array TypeId)
    (ho : o.op = .call { callee := .value (.func f), args := args, argTypes := ts }) (hent : ∀ args w, (callFunc f args).run P w = .ok (.enter f args) w) (vs : Array Value) (hvs : args.map a.eval = vs)
    {R : Value → World → Prop} (hc : Calls P f vs w fun e w' => ∃ v, e = .returned v ∧ R v w') (h : ∀ v w', R v w' → K (a.put o.dst v) w') :
    if Region.wanted o (yielded ops a.tmps) = true then Oper.wp P o a w K Q else E := by
  have hw : Region.wanted o (yielded ops a.tmps) = true := by simp [Region.wanted, hgd]
  rw [if_pos hw]
  unfold Oper.wp
  simp only [execOp, ho, resolve, invoke, Sem.run_bind, hvs]
  simp only [Act.eval, Deferred.ofValue, Sem.run_pure, Result.andThen_ok, Array.empty_append, hent]
  rw [Oper.upon_enter]
  refine hc.mono ?_
  rintro e w' ⟨v, rfl, hr⟩
  exact h v w' hr

end

/-- A struct of four cells, made and stored. -/
theorem new_four (w : World) (t : TypeId) (x y z u a b c d : Value) : ∃ V, (((((w.alloc (.cells #[x, y, z, u] t)).setCell ⟨w.heap.size, 0, none⟩ a).setCell ⟨w.heap.size, 1, none⟩ b).setCell ⟨w.heap.size, 2, none⟩ c).setCell ⟨w.heap.size, 3, none⟩ d = V) ∧ w.alloc (.cells #[a, b, c, d] t) = V ∧ V.heap.size = w.heap.size + 1 ∧ Below w.heap.size w V ∧ V.heap[w.heap.size]? = some (.cells #[a, b, c, d] t (0, 0)) ∧
    V.cell? ⟨w.heap.size, 0, none⟩ = some a ∧ V.cell? ⟨w.heap.size, 1, none⟩ = some b ∧ V.cell? ⟨w.heap.size, 2, none⟩ = some c ∧ V.cell? ⟨w.heap.size, 3, none⟩ = some d := by
  obtain ⟨V, h1, h2, h3, h4⟩ := blk_step w #[a, b, c, d] t
  refine ⟨V, ?_, h1, h2, h3, h4, blk_cell h4 0 rfl, blk_cell h4 1 rfl, blk_cell h4 2 rfl, blk_cell h4 3 rfl⟩
  rw [← h1]
  simp [go_sem]

theorem wrap64s (z : Int) (h0 : -9223372036854775808 ≤ z) (h1 : z < 9223372036854775808) : IntKind.i64.wrap z = z := by
  unfold IntKind.wrap
  simp [IntKind.bits, IntKind.signed]
  omega

end Go.Proofs.YtkpnkknolobioaaGreat
