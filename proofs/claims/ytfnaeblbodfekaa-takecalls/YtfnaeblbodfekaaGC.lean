/- Texts of one layer, one behind the other. -/
import Derived.Test.YtfnaeblbodfekaaGB
import Derived.Test.YtfnaeblbodfekaaG3
import Derived.Laws.BytesArg
import Derived.Test.YtfnaeblbodfekaaG4
import Derived.Test.YtfnaeblbodfekaaG5
import Derived.Test.YtfnaeblbodfekaaG8
/- The contracts of write and Encode (the program's). -/
namespace Go.Proofs.Ytfnaeblbodfekaa
open Go.RowKit
set_option linter.unusedVariables false

theorem wf64 {z : Int} (h : In64 z) : (Lit.int .i64 z).wf = true := by
  unfold In64 at h
  simp [Lit.wf, IntKind.min, IntKind.max, IntKind.bits, IntKind.signed]
  omega

theorem fl_snoc {l : List Sm.S} {k : Nat} {s : Sm.S} (h : l[k]? = some s) : Mm.fl (l.take (k + 1)) = Mm.fl (l.take k) ++ [s.1, s.2] := by
  rw [List.take_add_one, h, Mm.fl_app]
  rfl

theorem cat_take {l : List Cm.Cv} {k : Nat} {c : Cm.Cv} (h : l[k]? = some c) : Fm.cat ((l.take (k + 1)).map Mm.cb) = Fm.cat ((l.take k).map Mm.cb) ++ Fm.frm (Mm.cb c) := by
  rw [List.take_add_one, h, List.map_append]
  exact Mm.cat_snoc _ _

theorem encs_small {l : List Int} (h : ∀ z ∈ l, z ≤ 1048576) : (Pm.encs l).length ≤ 10 * l.length := (Pm.encs_len (fun z hz => by have := h z hz; omega)).1

theorem fl_bound {l : List Sm.S} {k : Nat} (h : ∀ z ∈ Mm.fl l, 0 ≤ z ∧ z ≤ 1048576) : (Pm.encs (Mm.fl (l.take k))).length ≤ 20 * l.length := by
  have h1 : ∀ z ∈ Mm.fl (l.take k), z ≤ 1048576 := fun z hz => (h z (by
    have : Mm.fl l = Mm.fl (l.take k) ++ Mm.fl (l.drop k) := by rw [← Mm.fl_app, List.take_append_drop]
    rw [this]
    exact List.mem_append_left _ hz)).2
  have h2 := encs_small h1
  rw [Mm.fl_len] at h2
  have : (l.take k).length ≤ l.length := List.length_take_le' _ _
  omega

theorem fl_mem {l : List Sm.S} {k : Nat} {s : Sm.S} (h : l[k]? = some s) (hb : ∀ z ∈ Mm.fl l, 0 ≤ z ∧ z ≤ 1048576) : (0 ≤ s.1 ∧ s.1 ≤ 1048576) ∧ (0 ≤ s.2 ∧ s.2 ≤ 1048576) := by
  have : ∀ z ∈ Mm.fl (l.take (k + 1)), 0 ≤ z ∧ z ≤ 1048576 := fun z hz => hb z (by
    have : Mm.fl l = Mm.fl (l.take (k + 1)) ++ Mm.fl (l.drop (k + 1)) := by rw [← Mm.fl_app, List.take_append_drop]
    rw [this]
    exact List.mem_append_left _ hz)
  rw [fl_snoc h] at this
  exact ⟨this s.1 (by simp), this s.2 (by simp)⟩

theorem frm_small {c : Cm.Cv} (h : Cm.chk c.e c.n c.l = 0) : (Fm.frm (Mm.cb c)).length ≤ 440 := by
  have h1 : (Mm.cb c).length ≤ 430 := Cm.encC_small h
  have h2 := Fm.sz3 (n := (Mm.cb c).length) (by omega)
  rw [Fm.frm_len]
  omega

theorem cat_small : ∀ {l : List Cm.Cv}, (∀ c ∈ l, Cm.chk c.e c.n c.l = 0) → (Fm.cat (l.map Mm.cb)).length ≤ 440 * l.length
  | [], _ => by simp [Fm.cat]
  | c :: r, h => by
    have h1 := cat_small (l := r) (fun d hd => h d (by simp [hd]))
    have h2 := frm_small (h c (by simp))
    simp only [List.map_cons, Fm.cat, List.length_append, List.length_cons]
    omega

end Go.Proofs.Ytfnaeblbodfekaa

/- The contracts of write (a ship) and Encode (the program's). -/
namespace Go.Proofs.Ytfnaeblbodfekaa
open Go.RowKit
set_option linter.unusedVariables false

/-- What Encode answers. -/
def EncR (m : Mm.Msg) (bs : List Int) (c : Int) : Prop := (c = 0 ∧ Mm.Ok m ∧ bs = Mm.enc m) ∨ (c = 2 ∧ ¬ Mm.Ok m ∧ bs = [])

theorem encR_is (m : Mm.Msg) : ∃ bs c, EncR m bs c := by
  by_cases h : Mm.Ok m
  · exact ⟨_, _, .inl ⟨rfl, h, rfl⟩⟩
  · exact ⟨_, _, .inr ⟨rfl, h, rfl⟩⟩

theorem encR_ck {m : Mm.Msg} {bs : List Int} {c : Int} (h : EncR m bs c) : Mm.Ck m c := by
  rcases h with ⟨rfl, h, _⟩ | ⟨rfl, h, _⟩
  · exact .inl ⟨rfl, h⟩
  · exact .inr ⟨rfl, h⟩

end Go.Proofs.Ytfnaeblbodfekaa

/- The contracts of op's readCounted and Read. -/
namespace Go.Proofs.Ytfnaeblbodfekaa
open Go.RowKit
set_option linter.unusedVariables false

/-- 'string(b)'. -/
theorem Is.conv {w : World} {v : Value} {zs : List Int} (h : Is .u8 w v zs) {P : Program} {src e dst : TypeId} (hs : P.underlying src = some (.slice e)) (he : P.underlying e = some (.int .u8)) (hd : P.underlying dst = some .string) :
    (convert src dst v).run P w = .ok (.string ⟨(Om.byts zs).toArray⟩) w := by
  by_cases hz : 0 < zs.length
  · obtain ⟨b, o, c, rfl, _, _, _, hc⟩ := h.full hz
    exact run_convert_bytes_arg w src e hs he b o zs.length c zs rfl hc dst hd
  · have : zs = [] := List.eq_nil_of_length_eq_zero (by omega)
    subst this
    obtain ⟨ao, c, rfl⟩ := h.bare
    cases ao with
    | none => exact run_convert_bytes_nil w src e hs he 0 c dst hd
    | some ad =>
      rw [run_convert_bytes_string w src dst e _ 0 c hs he hd, run_bytesToString w ad 0 c [] (by have := run_loadCells_list (P := P) w ad [] (by simp); simpa using this)]
      rfl

theorem Is.bytes {w : World} {v : Value} {zs : List Int} (h : Is .u8 w v zs) : ∀ z ∈ zs, 0 ≤ z ∧ z < 256 := by
  intro z hz
  obtain ⟨i, hi, rfl⟩ := List.getElem_of_mem hz
  have := h.byte i
  simpa [List.getD, hi] using this

theorem cres_bad {bs : List Int} {most : Nat} {u i g : Int} (hS : SRes bs most u i g) (hg : g ≠ 0) (hm : most ≤ 64) : ∀ t : List UInt8, t.length ≤ most → ¬ Om.cnt t <+: bs := by
  intro t ht hp
  have hp1 : Vm.enc t.length <+: bs := (List.prefix_append _ _).trans hp
  rcases hS with ⟨_, _, _, h⟩ | ⟨_, _, _, x, n, e, hR, hc⟩
  · exact hg h
  · have := Vm.res_good hR (u := t.length) (by omega) hp1
    omega

theorem cres_short {bs : List Int} {most : Nat} {u i : Int} (hR : Vm.Res bs u i 0) (hs : (bs.length : Int) - i < u) : ∀ t : List UInt8, t.length ≤ most → most ≤ 64 → ¬ Om.cnt t <+: bs := by
  intro t ht hm hp
  have hp1 : Vm.enc t.length <+: bs := (List.prefix_append _ _).trans hp
  have := Vm.res_good hR (u := t.length) (by omega) hp1
  have h2 := hp.length_le
  rw [Om.cnt_len] at h2
  omega

theorem cres_good {bs : List Int} {most u n : Nat} (hb : ∀ z ∈ bs, 0 ≤ z ∧ z < 256) (hR : Vm.Res bs u n 0) (hu : u ≤ most) (hs : n + u ≤ bs.length) :
    Om.CRes bs most (Om.byts ((bs.drop n).take u)) (n + u) 0 := by
  have hl : (Om.byts ((bs.drop n).take u)).length = u := by rw [Om.byts_len, List.length_take, List.length_drop]; omega
  rcases hR with ⟨x, _, hp, h1, h2, _⟩ | ⟨_, _, _, h⟩
  · have hx : x = u := by omega
    have hn : n = Vm.sz u := by rw [hx] at h2; omega
    subst hx
    refine .inl ⟨rfl, by rw [hl]; exact hu, ?_, ?_⟩
    · unfold Om.cnt
      rw [hl, Om.ints_byts (fun z hz => hb z (List.mem_of_mem_drop (List.mem_of_mem_take hz)))]
      obtain ⟨r, hr⟩ := hp
      have hln : (Vm.enc x).length = n := hn.symm
      have : bs.drop n = r := by rw [← hr, ← hln]; simp
      rw [this, ← hr]
      exact (List.prefix_append_right_inj _).2 (List.take_prefix _ _)
    · rw [Om.cnt_len, hl, hn]
  · simp at h

theorem empty_of {s : ByteArray} (h : s.data.toList = []) : s = ⟨#[]⟩ := by
  obtain ⟨⟨l⟩⟩ := s
  simp at h
  rw [h]

end Go.Proofs.Ytfnaeblbodfekaa

/- The contracts of the methods of batch's reader. -/
namespace Go.Proofs.Ytfnaeblbodfekaa
open Go.RowKit
set_option linter.unusedVariables false
set_option maxRecDepth 100000


theorem wrap64_small (z : Int) (h0 : -9223372036854775808 ≤ z) (h1 : z < 9223372036854775808) : IntKind.i64.wrap z = z := by
  unfold IntKind.wrap
  simp [IntKind.bits, IntKind.signed]
  omega

/-- The error's number. -/
def ei (bad : Bool) : Int := if bad then 5 else 0

section
variable {w0 w w' : World} {g a : Nat} {vb : Value} {bs : List Int} {bad : Bool}

end

theorem cat_data (a b : ByteArray) : (a ++ b).data.toList = a.data.toList ++ b.data.toList := by simp

theorem cat_fits {bs zs : List Int} {n sh a a' : Nat} {bad bad' : Bool} {s : ByteArray} (hs : s.data.toList = Om.byts zs) (h : Bm.BS bs n a bad zs a' bad') (hn : n ≤ 16 - sh) (hsh : sh ≤ 16) : ¬ 9223372036854775807 < sh + s.size := by
  have := Bm.bs_le h
  have e := congrArg List.length hs
  rw [Om.byts_len, ← Lib.size_eq] at e
  omega

end Go.Proofs.Ytfnaeblbodfekaa

/- The contracts of batch's reader's op and of Read. -/
namespace Go.Proofs.Ytfnaeblbodfekaa
open Go.RowKit
set_option linter.unusedVariables false

/-- An op that is read is small. -/
def SmallO (l : List Bm.Ov) : Prop := ∀ o ∈ l, o.k.size ≤ 16 ∧ o.v.size ≤ 32

theorem SmallO.fit {l : List Bm.Ov} (h : SmallO l) : FitO l := fun o ho => by have := h o ho; omega

theorem SmallO.snoc {l : List Bm.Ov} {o : Bm.Ov} (h : SmallO l) (h1 : o.k.size ≤ 16) (h2 : o.v.size ≤ 32) : SmallO (l ++ [o]) := by
  intro x hx
  rcases List.mem_append.1 hx with hx | hx
  · exact h x hx
  · rw [List.mem_singleton.1 hx]; exact ⟨h1, h2⟩

theorem small_of {l : List Bm.Ov} (h : Bm.chkL l = 0) : SmallO l := by
  intro o ho
  have := Om.chk_ok' ((Bm.chkL_zero h).2.2 o ho)
  simp only [Bm.Ov.kl, Bm.Ov.vl, ← Lib.size_eq] at this
  omega

theorem bres_small {bs : List Int} {l : List Bm.Ov} {n e : Int} (h : Bm.BRes bs l n e) : SmallO l ∧ l.length ≤ 8 := by
  rcases h with ⟨_, h, _⟩ | ⟨_, h, _⟩
  · exact ⟨small_of h, (Bm.chkL_zero h).2.1⟩
  · subst h
    exact ⟨fun o ho => by simp at ho, by simp⟩

end Go.Proofs.Ytfnaeblbodfekaa

/- The contracts of the document's Next and Read of a batch. -/
namespace Go.Proofs.Ytfnaeblbodfekaa
open Go.RowKit
set_option linter.unusedVariables false

namespace Bm
open Vm Om

/-- What a reader has come to that began at a0, so many ops being told. -/
def LA (bs : List Int) (a0 c : Nat) (l : List Ov) (a : Nat) (bad : Bool) (ah : List UInt8) : Prop :=
  (bad = false ∧ c ≤ 8 ∧ enc c <+: bs.drop a0 ∧ encL [] l <+: bs.drop (a0 + sz c) ∧ a = a0 + sz c + (encL [] l).length ∧ ah = lst [] l ∧ ∀ o ∈ l, o.shape) ∨ (bad = true ∧ NB (bs.drop a0))

theorem la_start {bs : List Int} {a0 c a : Nat} {bad : Bool} (h : SS bs 8 a0 false c a bad) : LA bs a0 c [] a bad [] := by
  rcases h with ⟨h, _⟩ | ⟨_, h1, _, _, h⟩ | ⟨_, h1, h2, h3, h4⟩
  · simp at h
  · refine .inr ⟨h1, fun m hm hp => ?_⟩
    unfold encB at hp
    rw [pre_app] at hp
    exact h _ (chkL_zero hm).2.1 hp.1
  · refine .inl ⟨h1, h2, h3, by simp [encL], by simp [encL, h4], rfl, by simp⟩

theorem la_step {bs : List Int} {a0 c a a' : Nat} {bad bad' : Bool} {l : List Ov} {ah : List UInt8} {o : Ov} (h : LA bs a0 c l a bad ah) (hl : l.length < c) (g : OS bs a bad ah o a' bad') : LA bs a0 c (l ++ [o]) a' bad' o.kl := by
  rcases h with ⟨rfl, h1, h2, h3, h4, h5, h6⟩ | ⟨rfl, h⟩
  · rcases g with ⟨_, g1, g2, g3, g4⟩ | ⟨g1, g2⟩
    · refine .inl ⟨g1, h1, h2, ?_, ?_, (lst_snoc _ _ _).symm, ?_⟩
      · rw [encL_snoc, pre_app, List.drop_drop, ← h4, ← h5]
        exact ⟨h3, g2⟩
      · rw [encL_snoc, List.length_append, ← h5, g3, h4, Nat.add_assoc]
      · intro x hx
        rcases List.mem_append.1 hx with hx | hx
        · exact h6 x hx
        · rw [List.mem_singleton.1 hx]; exact g4
    · refine .inr ⟨g1, fun m hm hp => ?_⟩
      unfold encB at hp
      rw [pre_app] at hp
      have e := pre_one _ _ _ h2 hp.1
      have hp2 := hp.2
      have hlm : l.length < m.length := by omega
      have hsplit : m = m.take l.length ++ m[l.length] :: m.drop (l.length + 1) := by
        rw [List.getElem_cons_drop, List.take_append_drop]
      rw [hsplit, encL_app, pre_app] at hp2
      have hmem : ∀ x ∈ m.take l.length, x.shape := fun x hx => shapes hm x (List.mem_of_mem_take hx)
      have hsz : (enc m.length).length = sz c := by rw [← e]; rfl
      rw [← hsplit, hsz, List.drop_drop] at hp2
      have e2 := encL_free [] l (m.take l.length) _ (by rw [List.length_take]; omega) h6 hmem h3 hp2.1
      have hp3 := hp2.2
      rw [← e2, List.drop_drop, ← h4, ← h5] at hp3
      show False
      unfold encL at hp3
      rw [pre_app] at hp3
      exact g2 rfl _ ((chkL_zero hm).2.2 _ (List.getElem_mem _)) hp3.1
  · rcases g with ⟨g, _⟩ | ⟨g1, _⟩
    · simp at g
    · exact .inr ⟨g1, h⟩

theorem la_end {bs : List Int} {a0 c a : Nat} {l : List Ov} {ah : List UInt8} (h : LA bs a0 c l a false ah) (hl : l.length = c) (hc : chkL l = 0) : BRes (bs.drop a0) l ((a : Int) - a0) 0 := by
  rcases h with ⟨_, h1, h2, h3, h4, _⟩ | ⟨h, _⟩
  · have e : encB l = enc c ++ encL [] l := by unfold encB; rw [hl]
    refine .inl ⟨rfl, hc, ?_, ?_⟩
    · rw [e, pre_app, List.drop_drop]; exact ⟨h2, h3⟩
    · rw [e, List.length_append, h4]
      unfold sz
      omega
  · simp at h

theorem la_bad {bs : List Int} {a0 c a : Nat} {l : List Ov} {ah : List UInt8} {bad : Bool} (h : LA bs a0 c l a bad ah) (hl : bad = false → l.length = c) (hc : bad = true ∨ chkL l ≠ 0) : BRes (bs.drop a0) [] 0 5 := by
  refine .inr ⟨rfl, rfl, rfl, ?_⟩
  rcases h with ⟨hb, h1, h2, h3, h4, _, h6⟩ | ⟨_, h⟩
  · rcases hc with hc | hc
    · rw [hc] at hb; simp at hb
    · intro m hm hp
      have e : encB l <+: bs.drop a0 := by
        unfold encB
        rw [hl hb, pre_app, List.drop_drop]
        exact ⟨h2, h3⟩
      have := encB_free e hp h6 (shapes hm)
      rw [this] at hc
      exact hc hm
  · exact h

/-- The document's order: the value, then how much is shared. -/
theorem doc_del {bs : List Int} {a a4 sh n : Nat} {bad bad4 bad' : Bool} {ah key : List UInt8} {zs : List Int} {o : Ov} (h : PS bs a bad ah 0 sh n zs a4 bad4) (hp : o.p = false) (hk : o.kl = key) (hkey : key = ah.take sh ++ byts zs) (hv : o.vl = []) (hb : bad' = (bad4 || decide (com ah key ≠ sh))) : OS bs a bad ah o a4 bad' := by
  cases bad4
  · by_cases hc : com ah key = sh
    · have : bad' = false := by rw [hb]; simp [hc]
      rw [this]
      exact os_del h hp (hk.trans hkey) hv (by rw [hk]; exact hc)
    · refine .inr ⟨by rw [hb]; simpa using hc, fun _ => os_com h (by rw [← hkey]; exact hc)⟩
  · rcases h with ⟨h, _⟩ | ⟨_, h⟩
    · simp at h
    · exact .inr ⟨by rw [hb]; rfl, h⟩

/-- What Next comes to. -/
def NX (bs : List Int) (a : Nat) (bad : Bool) (l : List Ov) (a' : Nat) (bad' : Bool) : Prop :=
  (bad = true ∧ bad' = true ∧ l = []) ∨ (bad = false ∧ ((bad' = false ∧ BRes (bs.drop a) l ((a' : Int) - a) 0) ∨ (bad' = true ∧ l = [] ∧ BRes (bs.drop a) [] 0 5)))

end Bm

/-- An op that the document's reader has told is not too long. -/
def MidO (l : List Bm.Ov) : Prop := ∀ o ∈ l, o.k.size ≤ 1000 ∧ o.v.size ≤ 32

theorem MidO.fit {l : List Bm.Ov} (h : MidO l) : FitO l := fun o ho => by have := h o ho; omega

theorem MidO.snoc {l : List Bm.Ov} {o : Bm.Ov} (h : MidO l) (h1 : o.k.size ≤ 1000) (h2 : o.v.size ≤ 32) : MidO (l ++ [o]) := by
  intro x hx
  rcases List.mem_append.1 hx with hx | hx
  · exact h x hx
  · rw [List.mem_singleton.1 hx]; exact ⟨h1, h2⟩

/-- One round of the reader: the key's four steps. -/
theorem key_size {ah s : ByteArray} {bs zs : List Int} {sh n a a' : Nat} {bad bad' : Bool} (hs : s.data.toList = Om.byts zs) (hb : Bm.BS bs n a bad zs a' bad') (hn : n ≤ 16) (hsh : sh ≤ ah.size) : (ah.extract 0 sh ++ s).size ≤ ah.size + 16 ∧ (ah.extract 0 sh ++ s).data.toList = ah.data.toList.take sh ++ Om.byts zs := by
  have hdat : (ah.extract 0 sh ++ s).data.toList = ah.data.toList.take sh ++ Om.byts zs := by rw [← hs]; simp
  have := Bm.bs_le hb
  refine ⟨?_, hdat⟩
  rw [Lib.size_eq, hdat, List.length_append, Om.byts_len, List.length_take]
  omega

theorem grown_base {w V V' : World} {row : Option Nat} (h : w.grownBy V row) (hb : Below w.heap.size V V') : w.grownBy V' row :=
  ⟨hb.os.trans h.os, hb.tape.trans h.tape, hb.output.trans h.output, Nat.le_trans h.size hb.size, fun i hi hne => (hb.block i hi).trans (h.block i hi hne)⟩

/-- A text made of bytes. -/
theorem text_of (zs : List Int) : ∃ s : ByteArray, (⟨(Om.byts zs).toArray⟩ : ByteArray) = s ∧ s.data.toList = Om.byts zs := ⟨_, rfl, rfl⟩

end Go.Proofs.Ytfnaeblbodfekaa
