/- Texts of one layer, one behind the other. -/
import Derived.Test.YthmecljkackmbaaGreatZJ8
import Derived.Test.YthmecljkackmbaaGreatZJ9
import Derived.Test.YthmecljkackmbaaGreatZA
import Derived.Test.YthmecljkackmbaaGreatZ20
/- The pair: any call; the pair is new. -/
namespace Go.Proofs.YthmecljkackmbaaGreat
open Go.RowKit
set_option linter.unusedVariables false

theorem rcall_any (w0 : World) (r : Nat) (w : World) (s : Rl.Rs) (p q x y : Nat) (F G : Nat → Prop) (h : RP w0 r w s s p q x y F G) (k : Nat) (hin : RIn k s) (hk : k ≤ 90) (a : Ac) (ha : AcOk w0 a) (hfit : FitO a.c.l) (h40 : a.c.l.length ≤ 40) :
    Calls Tryz.prog 44 #[.pointer (some ⟨r, 0, none⟩), acv a] w fun E w' => E = .returned (.bool true) ∧ PD w0 r q y k w' := by
  obtain ⟨h0, h1⟩ := pk_lt a.k 5 (by omega)
  have haw : AcOk w a := ha.below h.bel
  have hc : pk a.k 5 = 0 ∨ pk a.k 5 = 1 ∨ pk a.k 5 = 2 ∨ pk a.k 5 = 3 ∨ pk a.k 5 = 4 := by omega
  rcases hc with e | e | e | e | e
  · exact rcall0 w0 r w s p q x y F G h k hin hk a ha hfit h40 e
  · exact rcall1 w0 r w s p q x y F G h k hin hk a ha hfit h40 e
  · exact rcall2 w0 r w s p q x y F G h k hin hk a haw e
  · exact rcall3 w0 r w s p q x y F G h k hin hk a haw e
  · exact rcall4 w0 r w s p q x y F G h k hin hk a haw e

theorem smQ_len {l : List Ac} (h : smQ l = true) : l.length ≤ 40 ∧ ∀ a ∈ l, a.c.l.length ≤ 40 := by
  unfold smQ at h
  simp at h
  exact ⟨h.2, h.1⟩

/-- The pair is new. -/
theorem pair_new (w1 w4 w5 : World) (r q y : Nat) (hq : w1.heap.size ≤ q) (hy : w1.heap.size ≤ y) (hr : w1.heap.size ≤ r) (hqr : q ≠ r) (hyr : y ≠ r) (hqs : q < w4.heap.size) (hys : y < w4.heap.size) (hrs : r < w4.heap.size) (hb : Below w1.heap.size w1 w4) (h : ROpd r q y (fun g => g = q) (fun g => g = y) w4 Dm.new w5) :
    ∃ s p x F G, RP w1 r w5 s s p q x y F G ∧ RIn 1 s := by
  obtain ⟨m, hm, hc⟩ := h
  have h0 : ropE Dm.new m = 0 := by
    unfold ropE
    rw [if_neg (by decide)]
    exact (Rl.trm_is rfl rfl hm).1
  have hin := rin_open (s := ⟨Dm.new, [], false⟩) (k := 0) big_new (by simp [Rl.ops]) hm
  rw [if_pos h0] at hin
  rcases hc with ⟨hn, _⟩ | ⟨_, p, x, F, G, hB, hW, hX, ha, sF, sG, oo⟩
  · exact absurd h0 hn
  refine ⟨_, p, x, F, G, ⟨hB, hW, hX, ha, fun e => ?_, fun e => ?_, fun g e => ?_, fun g e => ?_, hr, hb.trans (oo.below (fun g e => ?_) hb.size)⟩, hin⟩
  · rcases sF r e with a | a
    · exact hqr a.symm
    · omega
  · rcases sG r e with a | a
    · exact hyr a.symm
    · omega
  · rcases sF g e with a | a
    · omega
    · have := hb.size
      omega
  · rcases sG g e with a | a
    · omega
    · have := hb.size
      omega
  · rcases e with a | a | a <;> omega

end Go.Proofs.YthmecljkackmbaaGreat

/- Runs told twice: their ops lie apart. -/
namespace Go.Proofs.YthmecljkackmbaaGreat
open Go.RowKit
open Bm (Ov)
set_option linter.unusedVariables false

def vsC (rs : List Cw) (i : Nat) : Value := (rs[i]?.map Cw.v).getD (.slice none 0 0)
def zsC (rs : List Cw) (i : Nat) : List Ov := (rs[i]?.map Cw.l).getD []

theorem lists_rows {base b1 : Nat} {w : World} {v : Value} {rs : List Cw} (h : OwnG one 1 53 b1 w v (rs.map Cw.v)) (ho : ∀ c ∈ rs, OwnO 81 base w c.v c.l) (ha : ApC rs) (hl : ∀ c ∈ rs, c.l.length ≤ 2000 ∧ FitO c.l) (hp : 0 < rs.length) :
    ∃ g cap, v = .slice (some ⟨g, 0, none⟩) rs.length cap ∧ rs.length ≤ cap ∧ ListsO rs.length g base w (vsC rs) (zsC rs) := by
  have hlen : (rs.map Cw.v).length = rs.length := List.length_map _
  obtain ⟨b, off, cap, hv, h1, h2, h3, h4⟩ := RowG.full one_len (by decide) h.row (by rw [hlen]; exact hp)
  have hoff : off = 0 := by
    rcases h.2 with ⟨hx, _⟩ | ⟨g, cap', cur, hx, _⟩
    · rw [hx] at hv
      simp at hv
    · rw [hx] at hv
      simp at hv
      exact hv.1.2.symm
  subst hoff
  rw [hlen] at hv h1
  have at' : ∀ i, i < rs.length → ∃ c, rs[i]? = some c ∧ c ∈ rs ∧ vsC rs i = c.v ∧ zsC rs i = c.l := fun i hi => by
    have hc : rs[i]? = some rs[i] := by rw [List.getElem?_eq_getElem]
    exact ⟨rs[i], hc, List.getElem_mem hi, by unfold vsC; rw [hc]; rfl, by unfold zsC; rw [hc]; rfl⟩
  refine ⟨b, cap, hv, h1, ⟨fun i hi => ?_, fun i hi => ?_, fun i j hi hj hn => ?_, fun i hi e => ?_, fun i hi => ?_, fun i hi => ?_⟩⟩
  · obtain ⟨c, hc, _, e1, _⟩ := at' i hi
    rw [e1]
    have := h4 i c.v (by rw [List.getElem?_map, hc]; rfl) 0 c.v rfl
    simpa using this
  · obtain ⟨c, _, hm, e1, e2⟩ := at' i hi
    rw [e1, e2]
    exact ho c hm
  · obtain ⟨c, hc, _, e1, _⟩ := at' i hi
    obtain ⟨d, hd, _, f1, _⟩ := at' j hj
    rw [e1, f1]
    exact ha i j c d hn hc hd
  · obtain ⟨c, _, hm, e1, _⟩ := at' i hi
    rw [e1] at e
    obtain ⟨cs, t1⟩ := OwnO.type (ho c hm) e
    obtain ⟨cs', t2⟩ := OwnG.type h (g := b) (by rw [hv]; rfl)
    rw [t1] at t2
    simp at t2
  · obtain ⟨c, _, hm, _, e2⟩ := at' i hi
    rw [e2]
    exact (hl c hm).1
  · obtain ⟨c, _, hm, _, e2⟩ := at' i hi
    rw [e2]
    exact (hl c hm).2

/-- Two lists of runs, one behind the other. -/
theorem apc_two {w1 : World} {b1 b2 : Nat} {w2 : World} {r1 r2 : List Cw} (h1 : ApC r1) (h2 : ApC r2) (c1 : CopyR b1 w1 r1) (c2 : CopyR b2 w2 r2) (hb : w1.heap.size ≤ b2) : ApC (r1 ++ r2) := by
  intro i j c d hn hc hd
  have cross : ∀ (c d : Cw), c ∈ r1 → d ∈ r2 → ∀ g, c.v.ownBlock = some g → d.v.ownBlock ≠ some g := fun c d hc hd g hg e => by
    have k1 := (OwnO.block (c1 c hc) g hg).2
    have k2 := (OwnO.block (c2 d hd) g e).1
    omega
  by_cases hi : i < r1.length
  · rw [List.getElem?_append_left hi] at hc
    by_cases hj : j < r1.length
    · rw [List.getElem?_append_left hj] at hd
      exact h1 i j c d hn hc hd
    · rw [List.getElem?_append_right (by omega)] at hd
      cases hx : c.v.ownBlock with
      | none => exact .inl rfl
      | some g => exact .inr fun e => cross c d (List.mem_of_getElem? hc) (List.mem_of_getElem? hd) g hx e.symm
  · rw [List.getElem?_append_right (by omega)] at hc
    by_cases hj : j < r1.length
    · rw [List.getElem?_append_left hj] at hd
      cases hx : c.v.ownBlock with
      | none => exact .inl rfl
      | some g => exact .inr fun e => cross d c (List.mem_of_getElem? hd) (List.mem_of_getElem? hc) g e.symm hx
    · rw [List.getElem?_append_right (by omega)] at hd
      exact h2 _ _ c d (by omega) hc hd

end Go.Proofs.YthmecljkackmbaaGreat
