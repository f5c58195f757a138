/- Texts of one layer, one behind the other. -/
import Derived.Test.YtkpnkknolobioaaG10
import Derived.Test.YtkpnkknolobioaaG6
/- The contracts of the document's Next and Read of a batch. -/
namespace Go.Proofs.Ytkpnkknolobioaa
open Go.RowKit
set_option linter.unusedVariables false

namespace Bm
open Vm Om

/-- What a reader has come to that began at a0, so many ops being told. -/
def LA (bs : List Int) (a0 c : Nat) (l : List Ov) (a : Nat) (bad : Bool) (ah : List UInt8) : Prop :=
  (bad = false ∧ c ≤ 8 ∧ enc c <+: bs.drop a0 ∧ encL [] l <+: bs.drop (a0 + sz c) ∧ a = a0 + sz c + (encL [] l).length ∧ ah = lst [] l ∧ ∀ o ∈ l, o.shape) ∨ (bad = true ∧ NB (bs.drop a0))

theorem la_start {bs : List Int} {a0 c a : Nat} {bad : Bool} (h : SS bs 8 a0 false c a bad) : LA bs a0 c [] a bad [] := by
  rcases h with ⟨h, _⟩ | ⟨_, h1, _, _, h⟩ | ⟨_, h1, h2, h3, h4⟩
  · simp at h
  · refine .inr ⟨h1, fun m hm hp => ?_⟩
    unfold encB at hp
    rw [pre_app] at hp
    exact h _ (chkL_zero hm).2.1 hp.1
  · refine .inl ⟨h1, h2, h3, by simp [encL], by simp [encL, h4], rfl, by simp⟩

theorem la_step {bs : List Int} {a0 c a a' : Nat} {bad bad' : Bool} {l : List Ov} {ah : List UInt8} {o : Ov} (h : LA bs a0 c l a bad ah) (hl : l.length < c) (g : OS bs a bad ah o a' bad') : LA bs a0 c (l ++ [o]) a' bad' o.kl := by
  rcases h with ⟨rfl, h1, h2, h3, h4, h5, h6⟩ | ⟨rfl, h⟩
  · rcases g with ⟨_, g1, g2, g3, g4⟩ | ⟨g1, g2⟩
    · refine .inl ⟨g1, h1, h2, ?_, ?_, (lst_snoc _ _ _).symm, ?_⟩
      · rw [encL_snoc, pre_app, List.drop_drop, ← h4, ← h5]
        exact ⟨h3, g2⟩
      · rw [encL_snoc, List.length_append, ← h5, g3, h4, Nat.add_assoc]
      · intro x hx
        rcases List.mem_append.1 hx with hx | hx
        · exact h6 x hx
        · rw [List.mem_singleton.1 hx]; exact g4
    · refine .inr ⟨g1, fun m hm hp => ?_⟩
      unfold encB at hp
      rw [pre_app] at hp
      have e := pre_one _ _ _ h2 hp.1
      have hp2 := hp.2
      have hlm : l.length < m.length := by omega
      have hsplit : m = m.take l.length ++ m[l.length] :: m.drop (l.length + 1) := by
        rw [List.getElem_cons_drop, List.take_append_drop]
      rw [hsplit, encL_app, pre_app] at hp2
      have hmem : ∀ x ∈ m.take l.length, x.shape := fun x hx => shapes hm x (List.mem_of_mem_take hx)
      have hsz : (enc m.length).length = sz c := by rw [← e]; rfl
      rw [← hsplit, hsz, List.drop_drop] at hp2
      have e2 := encL_free [] l (m.take l.length) _ (by rw [List.length_take]; omega) h6 hmem h3 hp2.1
      have hp3 := hp2.2
      rw [← e2, List.drop_drop, ← h4, ← h5] at hp3
      show False
      unfold encL at hp3
      rw [pre_app] at hp3
      exact g2 rfl _ ((chkL_zero hm).2.2 _ (List.getElem_mem _)) hp3.1
  · rcases g with ⟨g, _⟩ | ⟨g1, _⟩
    · simp at g
    · exact .inr ⟨g1, h⟩

theorem la_end {bs : List Int} {a0 c a : Nat} {l : List Ov} {ah : List UInt8} (h : LA bs a0 c l a false ah) (hl : l.length = c) (hc : chkL l = 0) : BRes (bs.drop a0) l ((a : Int) - a0) 0 := by
  rcases h with ⟨_, h1, h2, h3, h4, _⟩ | ⟨h, _⟩
  · have e : encB l = enc c ++ encL [] l := by unfold encB; rw [hl]
    refine .inl ⟨rfl, hc, ?_, ?_⟩
    · rw [e, pre_app, List.drop_drop]; exact ⟨h2, h3⟩
    · rw [e, List.length_append, h4]
      unfold sz
      omega
  · simp at h

theorem la_bad {bs : List Int} {a0 c a : Nat} {l : List Ov} {ah : List UInt8} {bad : Bool} (h : LA bs a0 c l a bad ah) (hl : bad = false → l.length = c) (hc : bad = true ∨ chkL l ≠ 0) : BRes (bs.drop a0) [] 0 5 := by
  refine .inr ⟨rfl, rfl, rfl, ?_⟩
  rcases h with ⟨hb, h1, h2, h3, h4, _, h6⟩ | ⟨_, h⟩
  · rcases hc with hc | hc
    · rw [hc] at hb; simp at hb
    · intro m hm hp
      have e : encB l <+: bs.drop a0 := by
        unfold encB
        rw [hl hb, pre_app, List.drop_drop]
        exact ⟨h2, h3⟩
      have := encB_free e hp h6 (shapes hm)
      rw [this] at hc
      exact hc hm
  · exact h

/-- The document's order: the value, then how much is shared. -/
theorem doc_del {bs : List Int} {a a4 sh n : Nat} {bad bad4 bad' : Bool} {ah key : List UInt8} {zs : List Int} {o : Ov} (h : PS bs a bad ah 0 sh n zs a4 bad4) (hp : o.p = false) (hk : o.kl = key) (hkey : key = ah.take sh ++ byts zs) (hv : o.vl = []) (hb : bad' = (bad4 || decide (com ah key ≠ sh))) : OS bs a bad ah o a4 bad' := by
  cases bad4
  · by_cases hc : com ah key = sh
    · have : bad' = false := by rw [hb]; simp [hc]
      rw [this]
      exact os_del h hp (hk.trans hkey) hv (by rw [hk]; exact hc)
    · refine .inr ⟨by rw [hb]; simpa using hc, fun _ => os_com h (by rw [← hkey]; exact hc)⟩
  · rcases h with ⟨h, _⟩ | ⟨_, h⟩
    · simp at h
    · exact .inr ⟨by rw [hb]; rfl, h⟩

theorem doc_put {bs : List Int} (hby : ∀ z ∈ bs, 0 ≤ z ∧ z < 256) {a a4 a5 a6 sh n m : Nat} {bad bad4 bad5 bad6 bad' : Bool} {ah key : List UInt8} {zs ys : List Int} {o : Ov} (h : PS bs a bad ah 1 sh n zs a4 bad4) (hp : o.p = true) (hk : o.kl = key) (hkey : key = ah.take sh ++ byts zs) (hv : o.vl = byts ys)
    (g1 : SS bs 32 a4 bad4 m a5 bad5) (g2 : BS bs m a5 bad5 ys a6 bad6) (hb : bad' = (bad6 || decide (com ah key ≠ sh))) : OS bs a bad ah o a6 bad' := by
  cases bad4
  · by_cases hc : com ah key = sh
    · have : bad' = bad6 := by rw [hb]; simp [hc]
      rw [this]
      exact os_put hby h hp (hk.trans hkey) hv (by rw [hk]; exact hc) g1 g2
    · refine .inr ⟨by rw [hb]; simp [hc], fun _ => os_com h (by rw [← hkey]; exact hc)⟩
  · rcases h with ⟨h, _⟩ | ⟨_, h⟩
    · simp at h
    · exact .inr ⟨by rw [hb, bs_bad g2 (ss_bad g1 rfl)]; rfl, h⟩

/-- What Next comes to. -/
def NX (bs : List Int) (a : Nat) (bad : Bool) (l : List Ov) (a' : Nat) (bad' : Bool) : Prop :=
  (bad = true ∧ bad' = true ∧ l = []) ∨ (bad = false ∧ ((bad' = false ∧ BRes (bs.drop a) l ((a' : Int) - a) 0) ∨ (bad' = true ∧ l = [] ∧ BRes (bs.drop a) [] 0 5)))

end Bm

theorem Rdr.grownB {w0 w w' : World} {g a row : Nat} {vb : Value} {bs : List Int} {bad : Bool} (h : Rdr w0 w g vb bs a bad) (hb : w.grownBy w' (some row)) (hr : w0.heap.size ≤ row) (hne : row ≠ g) : Rdr w0 w' g vb bs a bad :=
  ⟨h.1, h.2.1, h.2.2.1.grown hb h.2.2.1.size (fun k hk => by simp at hk; omega), (hb.block g h.lt (by simp; omega)).trans h.2.2.2.1, h.2.2.2.2⟩

/-- An op that the document's reader has told is not too long. -/
def MidO (l : List Bm.Ov) : Prop := ∀ o ∈ l, o.k.size ≤ 1000 ∧ o.v.size ≤ 32

theorem MidO.fit {l : List Bm.Ov} (h : MidO l) : FitO l := fun o ho => by have := h o ho; omega

theorem MidO.snoc {l : List Bm.Ov} {o : Bm.Ov} (h : MidO l) (h1 : o.k.size ≤ 1000) (h2 : o.v.size ≤ 32) : MidO (l ++ [o]) := by
  intro x hx
  rcases List.mem_append.1 hx with hx | hx
  · exact h x hx
  · rw [List.mem_singleton.1 hx]; exact ⟨h1, h2⟩

/-- One round of the reader: the key's four steps. -/
theorem key_size {ah s : ByteArray} {bs zs : List Int} {sh n a a' : Nat} {bad bad' : Bool} (hs : s.data.toList = Om.byts zs) (hb : Bm.BS bs n a bad zs a' bad') (hn : n ≤ 16) (hsh : sh ≤ ah.size) : (ah.extract 0 sh ++ s).size ≤ ah.size + 16 ∧ (ah.extract 0 sh ++ s).data.toList = ah.data.toList.take sh ++ Om.byts zs := by
  have hdat : (ah.extract 0 sh ++ s).data.toList = ah.data.toList.take sh ++ Om.byts zs := by rw [← hs]; simp
  have := Bm.bs_le hb
  refine ⟨?_, hdat⟩
  rw [Lib.size_eq, hdat, List.length_append, Om.byts_len, List.length_take]
  omega

theorem grown_base {w V V' : World} {row : Option Nat} (h : w.grownBy V row) (hb : Below w.heap.size V V') : w.grownBy V' row :=
  ⟨hb.os.trans h.os, hb.tape.trans h.tape, hb.output.trans h.output, Nat.le_trans h.size hb.size, fun i hi hne => (hb.block i hi).trans (h.block i hi hne)⟩

theorem Rdr.base {w0 w w' : World} {g a B : Nat} {vb : Value} {bs : List Int} {bad : Bool} (h : Rdr w0 w g vb bs a bad) (hb : Below B w w') (h0 : w0.heap.size ≤ B) (hg : g < B) : Rdr w0 w' g vb bs a bad :=
  ⟨h.1, h.2.1, h.2.2.1.trans (hb.mono h0), (hb.block g hg).trans h.2.2.2.1, h.2.2.2.2⟩

/-- A text made of bytes. -/
theorem text_of (zs : List Int) : ∃ s : ByteArray, (⟨(Om.byts zs).toArray⟩ : ByteArray) = s ∧ s.data.toList = Om.byts zs := ⟨_, rfl, rfl⟩

set_option maxRecDepth 100000 in
set_option maxHeartbeats 4000000 in
theorem bnextR_any (w0 w : World) (g : Nat) (vb : Value) (bs : List Int) (a : Nat) (bad : Bool) (h : Rdr w0 w g vb bs a bad) (hl : bs.length ≤ 140737488355328) :
    Calls Try.prog 107 #[.pointer (some ⟨g, 0, none⟩)] w fun E w' => ∃ (vl : Value) (l : List Bm.Ov) (a' : Nat) (bad' : Bool), E = .returned vl ∧ OwnO 66 w.heap.size w' vl l ∧ Rdr w0 w' g vb bs a' bad' ∧ w.grownBy w' (some g) ∧ Bm.NX bs a bad l a' bad' := by
  have hgl := h.lt
  have hw0 := h.2.2.1.size
  have HBY := hide h.is.bytes
  go_enter Try.func107, Try.ntmps107
  go_wp2_with fail
  refine (rsmall_any w0 w g vb bs a bad 8 h (by omega) (by omega)).mono ?_
  rintro E w1 ⟨c, a1, bad1, rfl, r1, gr1, s1⟩
  have hc8 := Bm.ss_le s1
  cases bad
  · have L1 := hide (Bm.la_start s1)
    clear s1 h
    go_wp2
    go_loopw [3, 4, 5] (fun lv av nv wr => ∃ (k : Nat) (l : List Bm.Ov) (ah : ByteArray) (a' : Nat) (bad' : Bool), k + l.length = c ∧ nv = .int .i64 k ∧ av = .string ah ∧ ah.size ≤ 16 * l.length ∧ Hid (MidO l) ∧ OwnO 66 w.heap.size wr lv l ∧ Rdr w0 wr g vb bs a' bad' ∧ w.grownBy wr (some g) ∧ Hid (Bm.LA bs a c l a' bad' ah.data.toList)) (fun _ _ nv _ => (intOf nv).toNat)
    case atStart => exact ⟨c, [], ⟨#[]⟩, a1, bad1, rfl, rfl, rfl, by simp [ByteArray.size], hide (fun o ho => by simp at ho), OwnO.nil _ _ _, r1, gr1, L1⟩
    case round =>
      obtain ⟨k, l, ah, a2, bad2, hk, rfl, rfl, hah, HM, own, r, gr, L⟩ := hrel
      have c2 := r.cell2
      have szr := gr.size
      by_cases hk0 : k = 0
      · subst hk0
        cases bad2
        · have f2 := r.froz 2
          have R := hide r
          have hlc : l.length = c := by omega
          clear r
          by_cases hc : Bm.chkL l = 0
          · have HB := hide (Bm.la_end L.out hlc hc)
            have HC := hide hc
            clear hc L
            go_wp2_with fail
            refine (bcheckR_any _ l _ own.is HM.out.fit (by omega)).mono ?_
            rintro E w9 ⟨rfl, bel9⟩
            rw [HC.out]
            have own9 := own.below bel9
            have R9 := hide (R.out.below bel9)
            have gr9 : w.grownBy w9 (some g) := grown_trans gr (grown_of_below bel9 _)
            clear own R gr bel9
            go_wp2
            go_ret
            exact ⟨_, l, a2, false, rfl, own9, R9.out, gr9, .inr ⟨rfl, .inl ⟨rfl, HB.out⟩⟩⟩
          · have HB := hide (Bm.la_bad L.out (fun _ => hlc) (.inr hc))
            obtain ⟨cc, hcc⟩ : ∃ cc, Bm.chkL l = cc := ⟨_, rfl⟩
            have hcb : (cc != 0) = true := by rw [← hcc]; simpa using hc
            have HC := hide hcc
            clear hc L hcc
            go_wp2_with fail
            refine (bcheckR_any _ l _ own.is HM.out.fit (by omega)).mono ?_
            rintro E w9 ⟨rfl, bel9⟩
            rw [HC.out]
            have r9 := R.out.below bel9
            have d2 := r9.cell2
            have e2 := r9.froz 2
            have R9 := hide r9
            have gr9 : w.grownBy w9 (some g) := grown_trans gr (grown_of_below bel9 _)
            clear own R gr bel9 r9
            go_wp2
            go_ret
            exact ⟨_, [], a2, true, rfl, OwnO.nil _ _ _, R9.out.put2 true, grown_trans gr9 (grown_setCell _ _ _), .inr ⟨rfl, .inr ⟨rfl, rfl, HB.out⟩⟩⟩
        · have f2 := r.froz 2
          have HB := hide (Bm.la_bad L.out (fun h => by simp at h) (.inl rfl))
          have R := hide r
          clear L r own
          go_wp2
          go_ret
          exact ⟨_, [], a2, true, rfl, OwnO.nil _ _ _, R.out.put2 true, grown_trans gr (grown_setCell _ _ _), .inr ⟨rfl, .inr ⟨rfl, rfl, HB.out⟩⟩⟩
      · cases bad2
        · have hkp : (0 : Int) < (k : Int) := by omega
          go_wp2_with fail
          refine (rsmall_any w0 wr g vb bs a2 false 1 r (by omega) (by omega)).mono ?_
          rintro E w3 ⟨kind, a3, bad3, rfl, r3, gr3, s3⟩
          have hkind := Bm.ss_le s3
          go_wp2_with fail
          refine (rsmall_any w0 w3 g vb bs a3 bad3 ah.size r3 (by omega) (by omega)).mono ?_
          rintro E w4 ⟨sh, a4, bad4, rfl, r4, gr4, s4⟩
          have hsh := Bm.ss_le s4
          go_wp2_with fail
          refine (rsmall_any w0 w4 g vb bs a4 bad4 16 r4 (by omega) (by omega)).mono ?_
          rintro E w5 ⟨n, a5, bad5, rfl, r5, gr5, s5⟩
          have hn := Bm.ss_le s5
          go_wp2_with fail
          refine (rbytes_any w0 w5 g vb bs a5 bad5 n r5 (by omega) (by omega)).mono ?_
          rintro E w6 ⟨v6, zs, a6, bad6, rfl, own6, r6, gr6, s6⟩
          have hc0 := (own6.is.drewN 1).conv Try.underlying25 Try.underlying5 Try.underlying9
          have hcz := ((own6.is.below (w' := w6.alloc (.cells #[.bool false, .string ⟨#[]⟩, .string ⟨#[]⟩] 66)) ((Below.refl _ _).alloc (Nat.le_refl _) _)).drewN 1).conv Try.underlying25 Try.underlying5 Try.underlying9
          obtain ⟨s, hs, hsd⟩ := text_of zs
          rw [hs] at hc0 hcz
          have hc1 : (convert 25 9 v6).run Try.prog w6.drew = .ok (.string s) w6.drew := hc0
          have hc2 : (convert 25 9 v6).run Try.prog (w6.alloc (.cells #[.bool false, .string ⟨#[]⟩, .string ⟨#[]⟩] 66)).drew = .ok (.string s) (w6.alloc (.cells #[.bool false, .string ⟨#[]⟩, .string ⟨#[]⟩] 66)).drew := hcz
          clear hc0 hcz
          obtain ⟨hks, hkd⟩ := key_size (ah := ah) hsd s6 hn hsh
          have hss : s.size ≤ 16 := by
            have := Bm.bs_le s6
            rw [Lib.size_eq, hsd, Om.byts_len]
            omega
          have hcat : ¬ 9223372036854775807 < sh + s.size := by omega
          have hal : ah.data.toList.length = ah.size := (Lib.size_eq ah).symm
          have hPS := Bm.pstep HBY.out s3 (by rw [hal]; exact s4) s5 s6 (.inl rfl)
          have PS := hide hPS
          have grA : w.grownBy w6 (some g) := grown_trans gr (grown_trans gr3 (grown_trans gr4 (grown_trans gr5 gr6)))
          have ownA := ((((own.keptg gr3 hgl).keptg gr4 hgl).keptg gr5 hgl).keptg gr6 hgl)
          have R6 := hide r6
          have szA := grA.size
          clear hPS s3 s4 s5 s6 r r3 r4 r5 r6 gr3 gr4 gr5 gr6 gr own own6 hs hsd c2
          rcases (show kind = 0 ∨ kind = 1 by omega) with rfl | rfl
          · obtain ⟨W7, hW7, sz7, bel7, blk7⟩ := blk_step w6 #[.bool false, .string (ah.extract 0 sh ++ s), .string ⟨#[]⟩] 66
            have p0 : W7.cell? ⟨w6.heap.size, 0, none⟩ = some (.bool false) := blk_cell blk7 0 rfl
            have p1 : W7.cell? ⟨w6.heap.size, 1, none⟩ = some (.string (ah.extract 0 sh ++ s)) := blk_cell blk7 1 rfl
            have p2 : W7.cell? ⟨w6.heap.size, 2, none⟩ = some (.string ⟨#[]⟩) := blk_cell blk7 2 rfl
            have q0 := blk_froz blk7 0
            have q1 := blk_froz blk7 1
            have q2 := blk_froz blk7 2
            have x0 : W7.setCell ⟨w6.heap.size, 0, none⟩ (.bool false) = W7 := set_same blk7 (j := 0) rfl
            have x1 : W7.setCell ⟨w6.heap.size, 1, none⟩ (.string (ah.extract 0 sh ++ s)) = W7 := set_same blk7 (j := 1) rfl
            have x2 : W7.setCell ⟨w6.heap.size, 2, none⟩ (.string ⟨#[]⟩) = W7 := set_same blk7 (j := 2) rfl
            go_wp2_with fail
            go_region
            all_goals
              have r7 := R6.out.below bel7
              have RW := hide (r7.below (below_drewN (Below.refl _ _) 1))
              have BW : Hid (W7.drew.heap[w6.heap.size]? = some (.cells #[.bool false, .string (ah.extract 0 sh ++ s), .string ⟨#[]⟩] 66 (0, 0))) := hide blk7
              have ownW : OwnO 66 w.heap.size W7.drew _ l := (ownA.below bel7).below (below_drewN (Below.refl _ _) 1)
              have grW : w.grownBy W7.drew (some g) := grown_trans (grown_trans grA (grown_of_below bel7 _)) (grown_drewN _ 1 _)
              have own6b := ownA.block
              clear blk7 bel7 ownA grA r7 R6 x0 x1 x2 q0 q1 q2 p0 p1 p2 hc1 hc2 hcat hW7
              generalize ah.extract 0 sh ++ s = K at *
              have HKD := hide hkd
              clear hkd
              have k1 : W7.drew.cell? ⟨w6.heap.size, 1, none⟩ = some (.string K) := blk_cell BW.out 1 rfl
              go_wp2_with fail
              refine (sharedR_any ah K _ (by omega) (by omega)).mono ?_
              rintro E w9 ⟨rfl, bel9⟩
              have r9 := RW.out.below bel9
              have B9 := hide ((bel9.block w6.heap.size (blk_lt BW.out)).trans BW.out)
              have own9 := ownW.below bel9
              have gr9 : w.grownBy w9 (some g) := grown_trans grW (grown_of_below bel9 _)
              have d2 := r9.cell2
              have f2 := r9.froz 2
              have R9 := hide r9
              clear r9 bel9 k1 RW BW ownW grW
              by_cases hc : Bm.com ah.data.toList K.data.toList = sh
              · have hb : ((Bm.com ah.data.toList K.data.toList : Int) != (sh : Int)) = false := by rw [hc]; simp
                have OS := hide (Bm.doc_del (o := ⟨false, K, ⟨#[]⟩⟩) (key := K.data.toList) (bad' := bad6) PS.out rfl rfl HKD.out rfl (by simp [hc]))
                have RX := R9
                have BX := B9
                have ownX := own9
                have grX := gr9
                clear hc R9 B9 own9 gr9
                have p0 : w9.cell? ⟨w6.heap.size, 0, none⟩ = some (.bool false) := blk_cell BX.out 0 rfl
                have p1 : w9.cell? ⟨w6.heap.size, 1, none⟩ = some (.string K) := blk_cell BX.out 1 rfl
                have p2 : w9.cell? ⟨w6.heap.size, 2, none⟩ = some (.string ⟨#[]⟩) := blk_cell BX.out 2 rfl
                have hXl := blk_lt BX.out
                obtain ⟨wY, hwY, szY, belY, ownY⟩ := ops_step 66 w9 #[.bool false, .string K, .string ⟨#[]⟩] 1 [⟨false, K, ⟨#[]⟩⟩] rfl rfl (by simp [maxLen])
                have ownX' := ownX.below belY
                have BY := hide ((belY.block w6.heap.size hXl).trans BX.out)
                have RY := hide (RX.out.below belY)
                have grY : w.grownBy wY (some g) := grown_trans grX (grown_of_below belY _)
                have L4 := hide (Bm.la_step L.out (by omega) (OS.out))
                have HM4 := hide (HM.out.snoc (o := ⟨false, K, ⟨#[]⟩⟩) (show K.size ≤ 1000 by omega) (show ByteArray.size ⟨#[]⟩ ≤ 32 by simp [ByteArray.size]))
                have szX := grX.size
                clear ownX belY grX BX RX L HM
                go_wp2_with (at_builtin; refine wpList_append_ops rfl (.tmp 59) (.tmp 61) 30 rfl 66 w.heap.size Try.underlying30 Try.info66 _ l rfl ownX' _ [⟨false, K, ⟨#[]⟩⟩] rfl ownY.is (by simp; omega) (by omega) ?_)
                intro vZ wZ ownZ belZ grZ
                have BZ := (grZ.block w6.heap.size (by omega) (fun e => by have := own6b _ e.symm; omega)).trans BY.out
                have k1 : wZ.cell? ⟨w6.heap.size, 1, none⟩ = some (.string K) := blk_cell BZ 1 rfl
                have rZ := RY.out.base belZ hw0 hgl
                have grZ' := grown_base grY belZ
                clear BZ BY RY grY belZ grZ ownX' ownY p0 p1 p2 own6b hwY
                go_wp2
                go_roundw
                case rel => exact ⟨k - 1, l ++ [⟨false, K, ⟨#[]⟩⟩], K, a6, bad6, by simp; omega, congrArg (Value.int .i64) (by omega), rfl, by simp; omega, HM4, ownZ, rZ, grZ', L4⟩
                case measure => simp [intOf]; omega
              · have hb : ((Bm.com ah.data.toList K.data.toList : Int) != (sh : Int)) = true := by simp; omega
                have OS := hide (Bm.doc_del (o := ⟨false, K, ⟨#[]⟩⟩) (key := K.data.toList) (bad' := true) PS.out rfl rfl HKD.out rfl (by simp [hc]))
                obtain ⟨wX, hwX⟩ : ∃ wX, w9.setCell ⟨g, 2, none⟩ (.bool true) = wX := ⟨_, rfl⟩
                have grS : w9.grownBy wX (some g) := by rw [← hwX]; exact grown_setCell w9 ⟨g, 2, none⟩ _
                have RX : Hid (Rdr w0 wX g vb bs a6 true) := hide (by rw [← hwX]; exact R9.out.put2 true)
                have BX := hide ((grS.block w6.heap.size (blk_lt B9.out) (by simp; omega)).trans B9.out)
                have ownX := own9.keptg grS hgl
                have grX := grown_trans gr9 grS
                clear hc R9 B9 own9 gr9 grS
                have p0 : wX.cell? ⟨w6.heap.size, 0, none⟩ = some (.bool false) := blk_cell BX.out 0 rfl
                have p1 : wX.cell? ⟨w6.heap.size, 1, none⟩ = some (.string K) := blk_cell BX.out 1 rfl
                have p2 : wX.cell? ⟨w6.heap.size, 2, none⟩ = some (.string ⟨#[]⟩) := blk_cell BX.out 2 rfl
                have hXl := blk_lt BX.out
                obtain ⟨wY, hwY, szY, belY, ownY⟩ := ops_step 66 wX #[.bool false, .string K, .string ⟨#[]⟩] 1 [⟨false, K, ⟨#[]⟩⟩] rfl rfl (by simp [maxLen])
                have ownX' := ownX.below belY
                have BY := hide ((belY.block w6.heap.size hXl).trans BX.out)
                have RY := hide (RX.out.below belY)
                have grY : w.grownBy wY (some g) := grown_trans grX (grown_of_below belY _)
                have L4 := hide (Bm.la_step L.out (by omega) (OS.out))
                have HM4 := hide (HM.out.snoc (o := ⟨false, K, ⟨#[]⟩⟩) (show K.size ≤ 1000 by omega) (show ByteArray.size ⟨#[]⟩ ≤ 32 by simp [ByteArray.size]))
                have szX := grX.size
                clear ownX belY grX BX RX L HM
                go_wp2_with (at_builtin; refine wpList_append_ops rfl (.tmp 59) (.tmp 61) 30 rfl 66 w.heap.size Try.underlying30 Try.info66 _ l rfl ownX' _ [⟨false, K, ⟨#[]⟩⟩] rfl ownY.is (by simp; omega) (by omega) ?_)
                intro vZ wZ ownZ belZ grZ
                have BZ := (grZ.block w6.heap.size (by omega) (fun e => by have := own6b _ e.symm; omega)).trans BY.out
                have k1 : wZ.cell? ⟨w6.heap.size, 1, none⟩ = some (.string K) := blk_cell BZ 1 rfl
                have rZ := RY.out.base belZ hw0 hgl
                have grZ' := grown_base grY belZ
                clear BZ BY RY grY belZ grZ ownX' ownY p0 p1 p2 own6b hwY
                go_wp2
                go_roundw
                case rel => exact ⟨k - 1, l ++ [⟨false, K, ⟨#[]⟩⟩], K, a6, true, by simp; omega, congrArg (Value.int .i64) (by omega), rfl, by simp; omega, HM4, ownZ, rZ, grZ', L4⟩
                case measure => simp [intOf]; omega
          · obtain ⟨W7, hW7, sz7, bel7, blk7⟩ := blk_step w6 #[.bool true, .string (ah.extract 0 sh ++ s), .string ⟨#[]⟩] 66
            have p0 : W7.cell? ⟨w6.heap.size, 0, none⟩ = some (.bool true) := blk_cell blk7 0 rfl
            have p1 : W7.cell? ⟨w6.heap.size, 1, none⟩ = some (.string (ah.extract 0 sh ++ s)) := blk_cell blk7 1 rfl
            have p2 : W7.cell? ⟨w6.heap.size, 2, none⟩ = some (.string ⟨#[]⟩) := blk_cell blk7 2 rfl
            have q0 := blk_froz blk7 0
            have q1 := blk_froz blk7 1
            have q2 := blk_froz blk7 2
            have x0 : W7.setCell ⟨w6.heap.size, 0, none⟩ (.bool true) = W7 := set_same blk7 (j := 0) rfl
            have x1 : W7.setCell ⟨w6.heap.size, 1, none⟩ (.string (ah.extract 0 sh ++ s)) = W7 := set_same blk7 (j := 1) rfl
            have x2 : W7.setCell ⟨w6.heap.size, 2, none⟩ (.string ⟨#[]⟩) = W7 := set_same blk7 (j := 2) rfl
            go_wp2_with fail
            go_region
            all_goals
              have r7 := (R6.out.below bel7).below (below_drewN (Below.refl _ _) 1)
              have B7 : Hid (W7.drew.heap[w6.heap.size]? = some (.cells #[.bool true, .string (ah.extract 0 sh ++ s), .string ⟨#[]⟩] 66 (0, 0))) := hide blk7
              have own7 : OwnO 66 w.heap.size W7.drew _ l := (ownA.below bel7).below (below_drewN (Below.refl _ _) 1)
              have gr7 : w.grownBy W7.drew (some g) := grown_trans (grown_trans grA (grown_of_below bel7 _)) (grown_drewN _ 1 _)
              have own6b := ownA.block
              clear blk7 bel7 ownA grA R6 x0 x1 x2 q0 q1 q2 p0 p1 p2 hc1 hc2 hcat hW7
              generalize ah.extract 0 sh ++ s = K at *
              have HKD := hide hkd
              clear hkd
              go_wp2_with fail
              refine (rsmall_any w0 W7.drew g vb bs a6 bad6 32 r7 (by omega) (by omega)).mono ?_
              rintro E w8 ⟨m, a8, bad8, rfl, r8, gr8, s8⟩
              have hm32 := Bm.ss_le s8
              have B8 := hide ((gr8.block w6.heap.size (blk_lt B7.out) (by simp; omega)).trans B7.out)
              have own8 := own7.keptg gr8 hgl
              have gr8' := grown_trans gr7 gr8
              clear r7 B7 own7 gr7 gr8
              go_wp2_with fail
              refine (rbytes_any w0 w8 g vb bs a8 bad8 m r8 (by omega) (by omega)).mono ?_
              rintro E wV ⟨vv, ys, aV, badV, rfl, ownv, rV, grV, sV⟩
              have hconv := ownv.is.conv Try.underlying25 Try.underlying5 Try.underlying9
              obtain ⟨vs, hvs, hvd⟩ := text_of ys
              rw [hvs] at hconv
              have hvl : vs.size ≤ 32 := by
                have := Bm.bs_le sV
                rw [Lib.size_eq, hvd, Om.byts_len]
                omega
              have BV := (grV.block w6.heap.size (blk_lt B8.out) (by simp; omega)).trans B8.out
              have t2 : wV.cell? ⟨w6.heap.size, 2, none⟩ = some (.string ⟨#[]⟩) := blk_cell BV 2 rfl
              have u2 := blk_froz BV 2
              obtain ⟨wW, hwW⟩ : ∃ wW, wV.setCell ⟨w6.heap.size, 2, none⟩ (.string vs) = wW := ⟨_, rfl⟩
              have grS : wV.grownBy wW (some w6.heap.size) := by rw [← hwW]; exact grown_setCell wV ⟨w6.heap.size, 2, none⟩ _
              have BW : Hid (wW.heap[w6.heap.size]? = some (.cells #[.bool true, .string K, .string vs] 66 (0, 0))) := hide (by rw [← hwW]; exact set_cells BV 2 (.string vs))
              have RW := hide (rV.grownB grS (by omega) (by omega))
              have ownW := (own8.keptg grV hgl).kept grS (by
                cases hv : Value.ownBlock _ with
                | none => exact .inl rfl
                | some b =>
                  refine .inr fun e => ?_
                  have := own6b b hv
                  simp at e
                  omega)
              have grW : w.grownBy wW (some g) := grown_fresh (grown_trans gr8' grV) grS (by omega)
              have S8 := hide s8
              have SV := hide sV
              have HVD := hide hvd
              clear hvd
              clear s8 sV r8 rV BV B8 own8 gr8' grV grS ownv hvs
              have k1 : wW.cell? ⟨w6.heap.size, 1, none⟩ = some (.string K) := blk_cell BW.out 1 rfl
              go_wp2_with fail
              refine (sharedR_any ah K _ (by omega) (by omega)).mono ?_
              rintro E w9 ⟨rfl, bel9⟩
              have r9 := RW.out.below bel9
              have B9 := hide ((bel9.block w6.heap.size (blk_lt BW.out)).trans BW.out)
              have own9 := ownW.below bel9
              have gr9 : w.grownBy w9 (some g) := grown_trans grW (grown_of_below bel9 _)
              have d2 := r9.cell2
              have f2 := r9.froz 2
              have R9 := hide r9
              clear r9 bel9 k1 RW BW ownW grW
              by_cases hc : Bm.com ah.data.toList K.data.toList = sh
              · have hb : ((Bm.com ah.data.toList K.data.toList : Int) != (sh : Int)) = false := by rw [hc]; simp
                have OS := hide (Bm.doc_put (o := ⟨true, K, vs⟩) (key := K.data.toList) (bad' := badV) HBY.out PS.out rfl rfl HKD.out HVD.out S8.out SV.out (by simp [hc]))
                have RX := R9
                have BX := B9
                have ownX := own9
                have grX := gr9
                clear hc R9 B9 own9 gr9
                have p0 : w9.cell? ⟨w6.heap.size, 0, none⟩ = some (.bool true) := blk_cell BX.out 0 rfl
                have p1 : w9.cell? ⟨w6.heap.size, 1, none⟩ = some (.string K) := blk_cell BX.out 1 rfl
                have p2 : w9.cell? ⟨w6.heap.size, 2, none⟩ = some (.string vs) := blk_cell BX.out 2 rfl
                have hXl := blk_lt BX.out
                obtain ⟨wY, hwY, szY, belY, ownY⟩ := ops_step 66 w9 #[.bool true, .string K, .string vs] 1 [⟨true, K, vs⟩] rfl rfl (by simp [maxLen])
                have ownX' := ownX.below belY
                have BY := hide ((belY.block w6.heap.size hXl).trans BX.out)
                have RY := hide (RX.out.below belY)
                have grY : w.grownBy wY (some g) := grown_trans grX (grown_of_below belY _)
                have L4 := hide (Bm.la_step L.out (by omega) (OS.out))
                have HM4 := hide (HM.out.snoc (o := ⟨true, K, vs⟩) (show K.size ≤ 1000 by omega) (show ByteArray.size vs ≤ 32 by omega))
                have szX := grX.size
                clear ownX belY grX BX RX L HM
                go_wp2_with (at_builtin; refine wpList_append_ops rfl (.tmp 59) (.tmp 61) 30 rfl 66 w.heap.size Try.underlying30 Try.info66 _ l rfl ownX' _ [⟨true, K, vs⟩] rfl ownY.is (by simp; omega) (by omega) ?_)
                intro vZ wZ ownZ belZ grZ
                have BZ := (grZ.block w6.heap.size (by omega) (fun e => by have := own6b _ e.symm; omega)).trans BY.out
                have k1 : wZ.cell? ⟨w6.heap.size, 1, none⟩ = some (.string K) := blk_cell BZ 1 rfl
                have rZ := RY.out.base belZ hw0 hgl
                have grZ' := grown_base grY belZ
                clear BZ BY RY grY belZ grZ ownX' ownY p0 p1 p2 own6b hwY
                go_wp2
                go_roundw
                case rel => exact ⟨k - 1, l ++ [⟨true, K, vs⟩], K, aV, badV, by simp; omega, congrArg (Value.int .i64) (by omega), rfl, by simp; omega, HM4, ownZ, rZ, grZ', L4⟩
                case measure => simp [intOf]; omega
              · have hb : ((Bm.com ah.data.toList K.data.toList : Int) != (sh : Int)) = true := by simp; omega
                have OS := hide (Bm.doc_put (o := ⟨true, K, vs⟩) (key := K.data.toList) (bad' := true) HBY.out PS.out rfl rfl HKD.out HVD.out S8.out SV.out (by simp [hc]))
                obtain ⟨wX, hwX⟩ : ∃ wX, w9.setCell ⟨g, 2, none⟩ (.bool true) = wX := ⟨_, rfl⟩
                have grS : w9.grownBy wX (some g) := by rw [← hwX]; exact grown_setCell w9 ⟨g, 2, none⟩ _
                have RX : Hid (Rdr w0 wX g vb bs aV true) := hide (by rw [← hwX]; exact R9.out.put2 true)
                have BX := hide ((grS.block w6.heap.size (blk_lt B9.out) (by simp; omega)).trans B9.out)
                have ownX := own9.keptg grS hgl
                have grX := grown_trans gr9 grS
                clear hc R9 B9 own9 gr9 grS
                have p0 : wX.cell? ⟨w6.heap.size, 0, none⟩ = some (.bool true) := blk_cell BX.out 0 rfl
                have p1 : wX.cell? ⟨w6.heap.size, 1, none⟩ = some (.string K) := blk_cell BX.out 1 rfl
                have p2 : wX.cell? ⟨w6.heap.size, 2, none⟩ = some (.string vs) := blk_cell BX.out 2 rfl
                have hXl := blk_lt BX.out
                obtain ⟨wY, hwY, szY, belY, ownY⟩ := ops_step 66 wX #[.bool true, .string K, .string vs] 1 [⟨true, K, vs⟩] rfl rfl (by simp [maxLen])
                have ownX' := ownX.below belY
                have BY := hide ((belY.block w6.heap.size hXl).trans BX.out)
                have RY := hide (RX.out.below belY)
                have grY : w.grownBy wY (some g) := grown_trans grX (grown_of_below belY _)
                have L4 := hide (Bm.la_step L.out (by omega) (OS.out))
                have HM4 := hide (HM.out.snoc (o := ⟨true, K, vs⟩) (show K.size ≤ 1000 by omega) (show ByteArray.size vs ≤ 32 by omega))
                have szX := grX.size
                clear ownX belY grX BX RX L HM
                go_wp2_with (at_builtin; refine wpList_append_ops rfl (.tmp 59) (.tmp 61) 30 rfl 66 w.heap.size Try.underlying30 Try.info66 _ l rfl ownX' _ [⟨true, K, vs⟩] rfl ownY.is (by simp; omega) (by omega) ?_)
                intro vZ wZ ownZ belZ grZ
                have BZ := (grZ.block w6.heap.size (by omega) (fun e => by have := own6b _ e.symm; omega)).trans BY.out
                have k1 : wZ.cell? ⟨w6.heap.size, 1, none⟩ = some (.string K) := blk_cell BZ 1 rfl
                have rZ := RY.out.base belZ hw0 hgl
                have grZ' := grown_base grY belZ
                clear BZ BY RY grY belZ grZ ownX' ownY p0 p1 p2 own6b hwY
                go_wp2
                go_roundw
                case rel => exact ⟨k - 1, l ++ [⟨true, K, vs⟩], K, aV, true, by simp; omega, congrArg (Value.int .i64) (by omega), rfl, by simp; omega, HM4, ownZ, rZ, grZ', L4⟩
                case measure => simp [intOf]; omega
        · have hkp : (0 : Int) < (k : Int) := by omega
          have f2 := r.froz 2
          have HB := hide (Bm.la_bad L.out (fun h => by simp at h) (.inl rfl))
          have R := hide r
          clear L r own
          go_wp2
          go_ret
          exact ⟨_, [], a2, true, rfl, OwnO.nil _ _ _, R.out.put2 true, grown_trans gr (grown_setCell _ _ _), .inr ⟨rfl, .inr ⟨rfl, rfl, HB.out⟩⟩⟩
  · have HS : Hid (bad1 = true ∧ c = 0) := hide (by
      rcases s1 with ⟨_, h1, h2, _⟩ | ⟨h1, _⟩ | ⟨h1, _⟩
      · exact ⟨h1, h2⟩
      · simp at h1
      · simp at h1)
    obtain ⟨hb1, hc0⟩ := HS.out
    subst hb1 hc0
    have c2 := r1.cell2
    have f2 := r1.froz 2
    have R := hide r1
    clear s1 h r1 HS
    go_wp2
    refine wp_loop_rounds 1 ?_
    rw [rounds_succ]
    go_wp2
    go_ret
    exact ⟨_, [], a1, true, rfl, OwnO.nil _ _ _, R.out.put2 true, grown_trans gr1 (grown_setCell _ _ _), .inl ⟨rfl, rfl, rfl⟩⟩

end Go.Proofs.Ytkpnkknolobioaa
