/- Texts of one layer, one behind the other. -/
import Derived.Test.YtmkpaedemjiboaaGreatA1
import Derived.Test.YtmkpaedemjiboaaGreatA6
import Derived.WalkMore
import Derived.Test.YtmkpaedemjiboaaGreatA3
import Derived.Test.YtmkpaedemjiboaaGreatA5
import Derived.BigQuiet
import Derived.Test.YtmkpaedemjiboaaGreatA4
/- The contracts of OverBytes and ApartBytes. -/
namespace Go.Proofs.YtmkpaedemjiboaaGreat
open Go.RowKit
set_option linter.unusedVariables false


/-- Go's complement of a byte, as the walk spells it. -/
def cpl (z : Int) : Int := bits BinOp.xor IntKind.u8 (if IntKind.u8.signed = true then -1 else IntKind.u8.max) z

theorem cpl_wf (z : Int) : (Lit.int .u8 (cpl z)).wf = true := wf_bits _ _ _ _

theorem mid_at (zs : List Int) (k : Nat) (h : k < zs.length) : (((zs.map cpl).take k ++ zs.drop k).map (Value.int .u8))[k]? = some (.int .u8 zs[k]) := by
  have hl : ((zs.map cpl).take k).length = k := by rw [List.length_take, List.length_map]; omega
  rw [List.getElem?_map, List.getElem?_append_right (by omega), hl, Nat.sub_self, List.drop_eq_getElem_cons h]
  rfl

theorem mid_set (zs : List Int) (k : Nat) (h : k < zs.length) : (((zs.map cpl).take k ++ zs.drop k).map (Value.int .u8)).set k (.int .u8 (cpl zs[k])) = ((zs.map cpl).take (k + 1) ++ zs.drop (k + 1)).map (Value.int .u8) := by
  have hl : ((zs.map cpl).take k).length = k := by rw [List.length_take, List.length_map]; omega
  have hl2 : (((zs.map cpl).take k).map (Value.int .u8)).length = k := by rw [List.length_map, hl]
  rw [List.drop_eq_getElem_cons h, List.map_append, List.set_append_right _ _ (by omega), hl2, Nat.sub_self, List.take_succ_eq_append_getElem (by simpa using h), List.map_cons, List.set_cons_zero]
  simp only [List.map_append, List.map_cons, List.append_assoc, List.cons_append, List.nil_append, List.getElem_map]



theorem Tryz.info56 : (Tryz.prog.info? 56).map (fun i => (i.zero, i.size, i.bytes)) = some (some (.slice none 0 0), 1, 24) := by kernel_rfl



/-- What the lists are, ahead of ApartBytes. -/
structure Lists (m bl base : Nat) (w : World) (vs : Nat → Value) (zs : Nat → List Int) : Prop where
  cell : ∀ i, i < m → w.cell? ⟨bl, i, none⟩ = some (vs i)
  own : ∀ i, i < m → Own .u8 5 base w (vs i) (zs i)
  apart : ∀ i j, i < m → j < m → i ≠ j → (vs i).ownBlock = none ∨ (vs i).ownBlock ≠ (vs j).ownBlock
  table : ∀ i, i < m → (vs i).ownBlock ≠ some bl
  lens : ∀ i, i < m → (zs i).length ≤ 150000000000000

/-- Behind the first loop: a copy of each. -/
structure Copies (m bl base : Nat) (w0 wr : World) (vs us : Nat → Value) (zs : Nat → List Int) (k : Nat) : Prop where
  cell : ∀ i, i < m → wr.cell? ⟨bl, i, none⟩ = some (vs i)
  was : ∀ i, i < m → wr.cell? ⟨w0.heap.size, i, none⟩ = some (us i)
  new : ∀ i, i < m → Own .u8 5 (w0.heap.size + 1) wr (us i) (zs i)
  done : ∀ i, i < k → i < m → Own .u8 5 base wr (vs i) ((zs i).map cpl)
  left : ∀ i, k ≤ i → i < m → Own .u8 5 base wr (vs i) (zs i)
  below : Below base w0 wr
  keep : ∀ g, g < w0.heap.size → (∀ i, i < m → (vs i).ownBlock ≠ some g) → wr.heap[g]? = w0.heap[g]?

theorem copies_step {m B k : Nat} {w wr w1 : World} {xs : List Value} {u : Value} {zs : Nat → List Int} (hk : k < m) (ho : w1.ownsRow B 56 1 (.slice (some ⟨B, 0, none⟩) m m) m xs)
    (hc : ∀ j, j < k → Own .u8 5 (B + 1) wr (xs.getD j (.slice none 0 0)) (zs j)) (bel : Below B w wr) (hs : B < wr.heap.size) (ownu : Own .u8 5 wr.heap.size w1 u (zs k)) (belu : Below wr.heap.size wr w1) :
    (w1.setCell ⟨B, k, none⟩ u).ownsRow B 56 1 (.slice (some ⟨B, 0, none⟩) m m) m (xs.set k u) ∧ (∀ j, j < k + 1 → Own .u8 5 (B + 1) (w1.setCell ⟨B, k, none⟩ u) ((xs.set k u).getD j (.slice none 0 0)) (zs j)) ∧
      Below B w (w1.setCell ⟨B, k, none⟩ u) ∧ B < (w1.setCell ⟨B, k, none⟩ u).heap.size := by
  have hst := ho.stored k u
  have hl : xs.length = m := by have := ho.1; omega
  refine ⟨hst.1, fun j hj => ?_, (bel.trans (belu.mono (by omega))).setCell (Nat.le_refl _) _, ?_⟩
  · by_cases hjk : j = k
    · subst hjk
      have e : (xs.set j u).getD j (.slice none 0 0) = u := by simp [hl, hk]
      rw [e]
      refine (ownu.rebase (by omega)).kept hst.2 ?_
      cases hb : u.ownBlock with
      | none => exact .inl rfl
      | some b => exact .inr (by have := ownu.block b hb; simp; omega)
    · have e : (xs.set k u).getD j (.slice none 0 0) = xs.getD j (.slice none 0 0) := by
        simp [List.getD, List.getElem?_set_ne (Ne.symm hjk)]
      rw [e]
      have h1 := hc j (by omega)
      refine (h1.below belu).kept hst.2 ?_
      cases hb : (xs.getD j (.slice none 0 0)).ownBlock with
      | none => exact .inl rfl
      | some b => exact .inr (by have := h1.block b hb; simp; omega)
  · have := hst.2.size
    have := belu.size
    omega

theorem copies_start {m bl B base : Nat} {w wr : World} {xs : List Value} {vs : Nat → Value} {zs : Nat → List Int} (hB : B = w.heap.size) (hm0 : 0 < m) (hbase : base ≤ B) (H : Lists m bl base w vs zs) (ho : wr.ownsRow B 56 1 (.slice (some ⟨B, 0, none⟩) m m) m xs)
    (hc : ∀ j, j < m → Own .u8 5 (B + 1) wr (xs.getD j (.slice none 0 0)) (zs j)) (bel : Below B w wr) : Copies m bl base w wr vs (fun j => xs.getD j (.slice none 0 0)) zs 0 := by
  subst hB
  have hl : xs.length = m := by have := ho.1; omega
  exact ⟨fun i hi => (bel.cell (p := ⟨bl, i, none⟩) (World.block_lt_of_cell? _ _ (H.cell i hi))).trans (H.cell i hi),
    fun i hi => by rw [ho.cellAt i (by omega)]; simp [List.getD, List.getElem?_eq_getElem (show i < xs.length by omega)],
    hc, fun i h0 => absurd h0 (by omega), fun i _ hi => (H.own i hi).below bel, bel.mono hbase, fun g hg _ => bel.block g hg⟩

theorem copies_over {m bl base k : Nat} {w wr w2 : World} {vs us : Nat → Value} {zs : Nat → List Int} (hk : k < m) (hbase : base ≤ w.heap.size) (hsz : w.heap.size ≤ wr.heap.size) (H : Lists m bl base w vs zs) (C : Copies m bl base w wr vs us zs k)
    (ho : Own .u8 5 base w2 (vs k) ((zs k).map cpl)) (hg : wr.grownBy w2 (vs k).ownBlock) : Copies m bl base w w2 vs us zs (k + 1) := by
  have hvk : ∀ b, (vs k).ownBlock = some b → base ≤ b ∧ b < w.heap.size := (H.own k hk).block
  have other : ∀ i, i < m → i ≠ k → (vs i).ownBlock = none ∨ (vs i).ownBlock ≠ (vs k).ownBlock := fun i hi hne => H.apart i k hi hk hne
  refine ⟨fun i hi => hg.cell (C.cell i hi) (fun e => H.table k hk e.symm), fun i hi => hg.cell (C.was i hi) (fun e => by have := hvk _ e.symm; simp at this), fun i hi => (C.new i hi).kept hg ?_, fun i h1 hi => ?_, fun i h1 hi => ?_, ?_, fun g hlt hn => (hg.block g (by omega) (fun e => hn k hk e.symm)).trans (C.keep g hlt hn)⟩
  · cases hb : (us i).ownBlock with
    | none => exact .inl rfl
    | some b =>
      refine .inr fun e => ?_
      have h1 := (C.new i hi).block b hb
      have h2 := hvk b e.symm
      omega
  · by_cases e : i = k
    · subst e; exact ho
    · exact (C.done i (by omega) hi).kept hg (other i hi e)
  · exact (C.left i (by omega) hi).kept hg (other i hi (by omega))
  · exact C.below.grown hg (by omega) (fun b hb => (hvk b hb).1)



/-- Two lists in a table. -/
def two {α : Type} (a b : α) : Nat → α | 0 => a | _ => b

theorem lists_two {base : Nat} {w : World} {va vc : Value} {za zc : List Int} {s2 : Nat} (ha : Own .u8 5 base w va za) (hc : Own .u8 5 s2 w vc zc)
    (h2 : ∀ b, va.ownBlock = some b → b < s2) (hb1 : base ≤ s2) (la : za.length ≤ 150000000000000) (lc : zc.length ≤ 150000000000000) :
    Lists 2 w.heap.size base (w.alloc (.cells #[va, vc] 56)) (two va vc) (two za zc) := by
  have bel : Below w.heap.size w (w.alloc (.cells #[va, vc] 56)) := (Below.refl _ _).alloc (Nat.le_refl _) _
  have ha' := ha.below bel
  have hc' := (hc.below bel).rebase (by omega : base ≤ s2)
  have either : ∀ i, i < 2 → i = 0 ∨ i = 1 := by omega
  have ba := ha.block
  have bc := hc.block
  refine ⟨fun i hi => ?_, fun i hi => ?_, fun i j hi hj hne => ?_, fun i hi => ?_, fun i hi => ?_⟩
  · rcases either i hi with rfl | rfl <;> simp [two]
  · rcases either i hi with rfl | rfl
    · exact ha'
    · exact hc'
  · have key : ∀ u v : Value, (∀ b d, u.ownBlock = some b → v.ownBlock = some d → b ≠ d) → u.ownBlock = none ∨ u.ownBlock ≠ v.ownBlock := by
      intro u v h
      cases hu : u.ownBlock with
      | none => exact .inl rfl
      | some b => exact .inr fun e => h b b hu e.symm rfl
    rcases either i hi with rfl | rfl <;> rcases either j hj with rfl | rfl <;> first | exact absurd rfl hne | skip
    all_goals
      refine key _ _ fun b d hb hd => ?_
      simp only [two] at hb hd
    · have := h2 b hb; have := bc d hd; omega
    · have := bc b hb; have := h2 d hd; omega
  · intro e
    rcases either i hi with rfl | rfl
    · have := ba _ e; omega
    · have := bc _ e; omega
  · rcases either i hi with rfl | rfl
    · exact la
    · exact lc

theorem lists_three {base : Nat} {w : World} {va vc vf : Value} {za zc zf : List Int} {s1 s2 : Nat} (ha : Own .u8 5 s1 w va za) (hc : Own .u8 5 s2 w vc zc) (hf : Own .u8 5 base w vf zf)
    (h1 : ∀ b, vf.ownBlock = some b → b < s1) (h2 : ∀ b, va.ownBlock = some b → b < s2) (hb1 : base ≤ s1) (h12 : s1 ≤ s2) (la : za.length ≤ 150000000000000) (lc : zc.length ≤ 150000000000000) (lf : zf.length ≤ 150000000000000) :
    Lists 3 w.heap.size base (w.alloc (.cells #[va, vc, vf] 56)) (tri va vc vf) (tri za zc zf) := by
  have bel : Below w.heap.size w (w.alloc (.cells #[va, vc, vf] 56)) := (Below.refl _ _).alloc (Nat.le_refl _) _
  have ha' := (ha.below bel).rebase (by omega : base ≤ s1)
  have hc' := (hc.below bel).rebase (by omega : base ≤ s2)
  have hf' := hf.below bel
  have three : ∀ i, i < 3 → i = 0 ∨ i = 1 ∨ i = 2 := by omega
  have ba := ha.block
  have bc := hc.block
  have bf := hf.block
  refine ⟨fun i hi => ?_, fun i hi => ?_, fun i j hi hj hne => ?_, fun i hi => ?_, fun i hi => ?_⟩
  · rcases three i hi with rfl | rfl | rfl <;> simp [tri]
  · rcases three i hi with rfl | rfl | rfl
    · exact ha'
    · exact hc'
    · exact hf'
  · have key : ∀ u v : Value, (∀ b d, u.ownBlock = some b → v.ownBlock = some d → b ≠ d) → u.ownBlock = none ∨ u.ownBlock ≠ v.ownBlock := by
      intro u v h
      cases hu : u.ownBlock with
      | none => exact .inl rfl
      | some b => exact .inr fun e => h b b hu e.symm rfl
    rcases three i hi with rfl | rfl | rfl <;> rcases three j hj with rfl | rfl | rfl <;> first | exact absurd rfl hne | skip
    all_goals
      refine key _ _ fun b d hb hd => ?_
      simp only [tri] at hb hd
    · have := h2 b hb; have := bc d hd; omega
    · have := ba b hb; have := h1 d hd; omega
    · have := bc b hb; have := h2 d hd; omega
    · have := bc b hb; have := h1 d hd; omega
    · have := h1 b hb; have := ba d hd; omega
    · have := h1 b hb; have := bc d hd; omega
  · intro e
    rcases three i hi with rfl | rfl | rfl
    · have := ba _ e; omega
    · have := bc _ e; omega
    · have := bf _ e; omega
  · rcases three i hi with rfl | rfl | rfl
    · exact la
    · exact lc
    · exact lf

end Go.Proofs.YtmkpaedemjiboaaGreat

/- frame.Scan. -/
namespace Go.Proofs.YtmkpaedemjiboaaGreat
open Go.RowKit
set_option linter.unusedVariables false

/-- The lists of a row. -/
def lsts (r : List Bw) : List (List Int) := r.map Bw.l

theorem lsts_len (r : List Bw) : (lsts r).length = r.length := List.length_map ..
theorem lsts_app (r : List Bw) (a : Bw) : lsts (r ++ [a]) = lsts r ++ [a.l] := by simp [lsts]

/-- Gathered so far. -/
def Got (bs : List Int) (r : List Bw) : Prop := (∀ a ∈ r, a.l.length ≤ 131072) ∧ Fm.cat (lsts r) <+: bs

theorem Got.nil (bs : List Int) : Got bs [] := ⟨by simp, by simp [lsts, Fm.cat]⟩

theorem Got.next {bs z : List Int} {r : List Bw} {n : Nat} {v : Value} (h : Got bs r) (hr : Fm.Rd (bs.drop (Fm.cat (lsts r)).length) z n 0) : Got bs (r ++ [⟨v, z⟩]) ∧ (Fm.cat (lsts (r ++ [⟨v, z⟩]))).length = (Fm.cat (lsts r)).length + n ∧ 1 ≤ n ∧ z.length ≤ 131072 := by
  rcases hr with ⟨_, h1, h2, h3⟩ | ⟨h0, _⟩
  · obtain ⟨g1, g2⟩ := Fm.sc_next h.2 h3
    have e : lsts (r ++ [⟨v, z⟩]) = lsts r ++ [z] := lsts_app r ⟨v, z⟩
    rw [e]
    have hz := Vm.sz_pos z.length
    refine ⟨⟨fun a ha => ?_, by rw [e]; exact g1⟩, by omega, by omega, h1⟩
    rcases List.mem_append.1 ha with ha | ha
    · exact h.1 a ha
    · simp at ha
      subst ha
      exact h1
  · cases h0

theorem Got.le {bs : List Int} {r : List Bw} (h : Got bs r) : (Fm.cat (lsts r)).length ≤ bs.length ∧ r.length ≤ (Fm.cat (lsts r)).length := by
  refine ⟨h.2.length_le, ?_⟩
  have := Fm.cat_len (lsts r)
  rw [lsts_len] at this
  exact this

theorem Got.done {bs z : List Int} {r : List Bw} {n : Nat} (h : Got bs r) (hr : Fm.Rd (bs.drop (Fm.cat (lsts r)).length) z n 5) : Fm.Sc bs (lsts r) := by
  rcases hr with ⟨h0, _⟩ | ⟨_, _, _, h3⟩
  · cases h0
  · refine ⟨fun q hq => ?_, h.2, h3⟩
    obtain ⟨a, ha, rfl⟩ := List.mem_map.1 hq
    exact h.1 a ha

end Go.Proofs.YtmkpaedemjiboaaGreat

/- The document's Append and Read. -/
namespace Go.Proofs.YtmkpaedemjiboaaGreat
open Go.RowKit
set_option linter.unusedVariables false

theorem fputR_any (vb : Value) (bs : List Int) (x : Int) (w : World) (hb : Is .u8 w vb bs) (hl : bs.length ≤ 140737488352900) (h0 : 0 ≤ x) (h1 : x < 9223372036854775808) :
    Calls Tryz.prog 144 #[vb, .int .i64 x] w fun e w' => ∃ v, e = .returned v ∧ Own .u8 5 w.heap.size w' v (bs ++ Vm.enc x.toNat) ∧ Below w.heap.size w w' := by
  go_enter Tryz.func144, Tryz.ntmps144
  go_wp2_with fail
  refine (appR_any _ bs x _ hb (by omega) (by omega) (by omega)).mono ?_
  rintro E w1 ⟨v1, rfl, own1, bel1⟩
  go_wp2
  go_ret
  exact ⟨_, rfl, own1, bel1⟩

set_option maxHeartbeats 1000000 in
theorem fappR_any (vb vr : Value) (bs r : List Int) (w : World) (hb : Is .u8 w vb bs) (hr : Is .u8 w vr r) (hl : bs.length ≤ 140737488351232) (hl' : r.length ≤ 140737488351232) :
    Calls Tryz.prog 127 #[vb, vr] w fun E w' => ∃ v', E = .returned (.tuple #[v', .int .i64 (ape r)]) ∧ Own .u8 5 w.heap.size w' v' (apd bs r) ∧ Below w.heap.size w w' := by
  obtain ⟨ro, rc, hv, hcap, hcm⟩ := hr.shape
  subst hv
  have HR := hide hr
  clear hr
  by_cases hlong : r.length ≤ 131072
  · have e1 : ape r = 0 := if_pos hlong
    have e2 : apd bs r = bs ++ Vm.enc r.length ++ r := by unfold apd Fm.frm; rw [if_pos hlong, List.append_assoc]
    rw [e1, e2]
    have hn : ¬ (131072 : Int) < (r.length : Int) := by omega
    have hz : (Vm.enc r.length).length ≤ 3 := Fm.sz3 hlong
    have C1 := hide (fputR_any vb bs (r.length : Int) w hb (by omega) (by omega) (by omega))
    rw [Int.toNat_natCast] at C1
    clear e1 e2 hb
    go_enter Tryz.func127, Tryz.ntmps127
    go_wp2_with fail
    refine C1.out.mono ?_
    rintro E w1 ⟨v1, rfl, own1, bel1⟩
    clear C1
    have hr1 := HR.out.below bel1
    have sum : (bs ++ Vm.enc r.length).length + r.length ≤ 150000000000000 := by rw [List.length_append]; omega
    have s1 := bel1.size
    generalize hq : bs ++ Vm.enc r.length = q at *
    have HQ := hide hq
    clear hq
    go_wp2_with (at_builtin; refine wpList_append_is rfl (.tmp 14) (.tmp 15) 56 rfl .u8 5 w.heap.size 1 Tryz.underlying56 Tryz.info5 (by decide) _ q rfl own1 _ r rfl hr1 (by simp; omega) s1 ?_)
    intro v2 w2 own2 bel2 _
    have b3 := bel1.trans bel2
    rw [← HQ.out] at own2
    clear own1 hr1 bel1 bel2
    go_wp2
    go_ret2
    exact ⟨_, rfl, own2, b3⟩
  · have e1 : ape r = 3 := if_neg hlong
    have e2 : apd bs r = [] := if_neg hlong
    rw [e1, e2]
    have hn : (131072 : Int) < (r.length : Int) := by omega
    go_enter Tryz.func127, Tryz.ntmps127
    go_wp2
    go_ret2
    exact ⟨_, rfl, Own.nil _ _ _ _, Below.refl _ _⟩

/-- A count, and then its bytes, by the reader. -/
theorem rdr_rd {bs zs : List Int} {u a1 a2 : Nat} {b1 b2 : Bool} (h1 : SStep bs 131072 0 false u a1 b1) (h2 : BStep bs u a1 b1 zs a2 b2) :
    (b2 = false ∧ Fm.Rd bs zs a2 0) ∨ (b2 = true ∧ Fm.Rd bs [] 0 5) := by
  rcases h1 with ⟨h, _⟩ | ⟨_, rfl, rfl, rfl, hno⟩ | ⟨_, rfl, hu, hp, rfl⟩
  · cases h
  · rcases h2 with ⟨_, rfl, rfl, rfl⟩ | ⟨h, _⟩
    · exact .inr ⟨rfl, rd_bad (by simpa using hno)⟩
    · cases h
  · rw [List.drop_zero] at hp
    rw [Nat.zero_add] at h2
    rcases h2 with ⟨h, rfl, rfl, rfl⟩ | ⟨_, h, rfl, rfl, rfl⟩
    · have h : bs.length - Vm.sz u < u := by simpa using h
      exact .inr ⟨rfl, rd_short hp h⟩
    · exact .inl ⟨rfl, rd_good hp hu h⟩

set_option maxHeartbeats 2000000 in
theorem freadR_any (vb : Value) (bs : List Int) (w : World) (hb : Is .u8 w vb bs) (hl : bs.length ≤ 150000000000000) :
    Calls Tryz.prog 122 #[vb] w fun E w' => ∃ (v : Value) (r : List Int) (n : Nat) (e : Int), E = .returned (.tuple #[v, .int .i64 n, .int .i64 e]) ∧ Own .u8 5 w.heap.size w' v r ∧ Below w.heap.size w w' ∧ Hid (Fm.Rd bs r n e) := by
  obtain ⟨ao, cap, rfl, _, _⟩ := hb.shape
  obtain ⟨W1, hW1, sz1, bel1, blk1⟩ := blk_step w #[.slice ao bs.length cap, .int .i64 0, .bool false] 151
  have r1 : Rdr w W1 w.heap.size (.slice ao bs.length cap) bs 0 false := ⟨hb, by omega, bel1, blk1, by omega⟩
  have C1 := hide (rsmall_any w W1 w.heap.size _ bs 0 false 131072 r1 hl (by omega))
  clear blk1 hb r1 bel1
  go_enter Tryz.func122, Tryz.ntmps122
  go_wp2_with fail
  refine C1.out.mono ?_
  rintro E w2 ⟨u, a1, b1, rfl, r2, g2, hs⟩
  have hu : u ≤ 131072 := by
    rcases hs with ⟨h, _⟩ | ⟨_, _, h, _⟩ | ⟨_, _, h, _⟩
    · cases h
    · omega
    · exact h
  have C2 := hide (rbytes_any w w2 w.heap.size _ bs a1 b1 u r2 hl (by omega))
  have HS := hide hs
  have S2 := r2.2.2.1.size
  clear C1 hs r2 g2
  go_wp2_with fail
  refine C2.out.mono ?_
  rintro E w3 ⟨v3, zs, a2, b2, rfl, own3, r3, _, hb3⟩
  have B3 := hide r3.2.2.1
  have O3 := hide (own3.rebase S2)
  have k1 := r3.cell1
  have k2 := r3.cell2
  have RD := hide (rdr_rd HS.out hb3)
  clear C2 HS own3 r3 hb3
  cases b2
  · have R : Hid (Fm.Rd bs zs a2 0) := hide (by rcases RD.out with h | h; exact h.2; cases h.1)
    clear RD
    go_wp2_with fail
    go_quiet (fail)
    go_wp2
    go_ret3
    exact ⟨_, zs, a2, 0, rfl, O3.out.drewN _, below_drewN B3.out _, R⟩
  · have R : Hid (Fm.Rd bs [] 0 5) := hide (by rcases RD.out with h | h; cases h.1; exact h.2)
    clear RD
    go_wp2
    go_ret3
    exact ⟨_, [], 0, 5, rfl, Own.nil _ _ _ _, B3.out, R⟩

end Go.Proofs.YtmkpaedemjiboaaGreat

/- The document's Scan. -/
namespace Go.Proofs.YtmkpaedemjiboaaGreat
open Go.RowKit
set_option linter.unusedVariables false

/-- What the document's reading has by now. -/
structure RsR (w wr : World) (bs : List Int) (l : List Cm.Cv) (vc : Value) (rs : List Cw) : Prop where
  rd : Rdl bs l
  row : OwnR 37 w.heap.size wr vc rs
  cop : CopyR w.heap.size wr rs
  is : cvs rs = l
  bel : Below w.heap.size w wr

theorem RsR.below {w wr w' : World} {bs : List Int} {l : List Cm.Cv} {vc : Value} {rs : List Cw} (h : RsR w wr bs l vc rs) (hb : Below wr.heap.size wr w') : RsR w w' bs l vc rs :=
  ⟨h.rd, h.row.below hb, h.cop.below hb, h.is, h.bel.trans (hb.mono h.bel.size)⟩

theorem neq_fol (l : List Cm.Cv) (c : Cm.Cv) (hg : Cm.Good 0 0 l) : (!((((Cm.fol (Cm.lastE 0 l) (Cm.lastN 0 l) 0 [c]).1 == 0) && ((Cm.fol (Cm.lastE 0 l) (Cm.lastN 0 l) 0 [c]).2 == 0)))) = !tk l c := by
  rw [tk_fol, Wl.good_lastN hg]

set_option maxRecDepth 20000 in
set_option maxHeartbeats 1500000 in
theorem wscanR_any (vb : Value) (bs : List Int) (w : World) (hb : Is .u8 w vb bs) (hl : bs.length ≤ 1000000000) :
    Calls Tryz.prog 79 #[vb] w fun E w' => ∃ (l : List Cm.Cv) (vc : Value) (rs : List Cw), E = .returned (.tuple #[vc, .int .i64 (Wl.lgb l).length]) ∧ OwnR 37 w.heap.size w' vc rs ∧ CopyR w.heap.size w' rs ∧ cvs rs = l ∧ Below w.heap.size w w' ∧ Hid (Wl.Lg 0 0 bs l) := by
  have HB := hide hb
  obtain ⟨ba, bc, hvb, _, _⟩ := hb.shape
  clear hb
  subst hvb
  go_enter Tryz.func79, Tryz.ntmps79
  go_wp2
  go_loopw [4, 5, 6, 7] (fun ov av ev nv wr => ∃ (l : List Cm.Cv) (rs : List Cw), Hid (RsR w wr bs l ov rs) ∧ av = .int .i64 (Wl.lgb l).length ∧ ev = .int .i64 (Cm.lastE 0 l) ∧ nv = .int .i64 (Cm.lastN 0 l) ∧ (Wl.lgb l).length ≤ bs.length) (fun _ av _ _ _ => bs.length - (intOf av).toNat)
  case atStart => exact ⟨[], [], hide ⟨Rdl.nil bs, OwnR.nil _ _ _, fun c hc => by simp at hc, rfl, Below.refl _ _⟩, rfl, rfl, rfl, by simp [Wl.lgb, Fm.cat]⟩
  case round =>
    obtain ⟨l, rs, RS, rfl, rfl, rfl, hle⟩ := hrel
    obtain ⟨vs, hsl, isl⟩ := (HB.out.below RS.out.bel).slice_l Tryz.elemP Tryz.sizeP (Wl.lgb l).length hle
    have HF := hide (freadR_any vs _ wr isl (by rw [List.length_drop]; omega))
    clear isl
    have hbd : In64 (Cm.lastE 0 l) ∧ In64 (Cm.lastN 0 l) := by
      have h1 := Wl.good_lastN RS.out.rd.1
      have h2 := good_len RS.out.rd.1
      refine ⟨?_, by rw [h1]; exact ⟨by omega, by omega⟩⟩
      rcases List.eq_nil_or_concat l with rfl | ⟨r, c, rfl⟩
      · exact ⟨by simp [Cm.lastE], by simp [Cm.lastE]⟩
      · have hk : (r.concat c)[r.length]? = some c := by rw [List.concat_eq_append]; simp
        have h3 := Cm.chk_zero (Cm.good_at _ 0 0 r.length c RS.out.rd.1 hk).1
        rw [List.concat_eq_append, (Cm.last_snoc r c 0 0).1]
        exact ⟨by omega, by omega⟩
    generalize hL : Cm.lastE 0 l = le at *
    generalize hN : Cm.lastN 0 l = ln at *
    generalize hG : (Wl.lgb l).length = lg at *
    have KL := hide hL
    have KN := hide hN
    have KG := hide hG
    clear hL hN hG
    go_wp2_with fail
    refine HF.out.mono ?_
    rintro E wa ⟨v1, z, n, e, rfl, own1, bel1, R⟩
    have RA := hide (RS.out.below bel1)
    clear HF RS
    have he : e = 0 ∨ e = 5 := by
      rcases R.out with h | h
      · exact .inl h.1
      · exact .inr h.1
    rw [← KG.out] at R
    rcases he with rfl | rfl
    · have HZ := hide (rd_zero R.out)
      have hzl : z.length ≤ 131072 := HZ.out.1
      have HD := hide (cdecR_any v1 z wa own1.is (by omega))
      obtain ⟨o1, k1, hv1, _, _⟩ := own1.is.shape
      subst hv1
      clear own1 bel1
      go_wp2_with fail
      refine HD.out.mono ?_
      rintro E wb ⟨ee, nn, g, vo, ops, rfl, ownc, hcr, bel2⟩
      have RB := RA.out.below bel2
      have szb := bel2.size
      have sza := RA.out.bel.size
      have hgg := Cm.cres_e hcr
      have hbc := Cm.cres_bounds hcr
      obtain ⟨o2, k2, hv2, _, _⟩ := ownc.is.shape
      obtain ⟨wc, hwc, hwc2, szc, belc, bC, x0, x1, x2⟩ := new_step wb 37 (.int .i64 0) (.int .i64 0) (.slice none 0 0) (.int .i64 ee) (.int .i64 nn) vo
      have RC := hide (RB.below belc)
      have OC := hide (ownc.below belc)
      have HC := hide hcr
      unfold cmv
      have hvo := hide hv2
      rw [hv2] at hwc hwc2 x2 ⊢
      obtain ⟨ac, ncap, hvc, _, _⟩ := RC.out.row.row.shape
      have BK : Hid (∀ g, u4.ownBlock = some g → g < wb.heap.size) := hide (fun g hg => (World.ownsRow.lt RB.row g hg).2)
      clear RA HD RB ownc hcr bel2 belc bC hv2
      rcases hgg with rfl | rfl
      · have h64 : In64 ee ∧ In64 nn := ⟨⟨by omega, by omega⟩, ⟨by omega, by omega⟩⟩
        have hfit : FitO ops ∧ ops.length * 40 ≤ 140737488351232 := by
          rcases HC.out with ⟨_, h1, _⟩ | ⟨h0, _⟩
          · obtain ⟨_, _, _, _, h5⟩ := Cm.chk_zero h1
            exact ⟨(small_of h5).fit, by have := (Bm.chkL_zero h5).2.1; omega⟩
          · cases h0
        obtain ⟨wd, hwd, szd, beld, rowd⟩ := coms_step 37 wc #[.int .i64 ee, .int .i64 nn, vo] 1 [⟨ee, nn, vo, ops⟩] rfl rfl (by simp [maxLen])
        obtain ⟨fe, fp, hfol⟩ : ∃ fe fp, Cm.fol le ln 0 [⟨ee, nn, ops⟩] = (fe, fp) := ⟨_, _, rfl⟩
        have FO := hide (cfolR_any le ln _ [⟨ee, nn, vo, ops⟩] wd ⟨rowd.row, fun d hd => by rw [List.mem_singleton.1 hd]; exact ⟨(OC.out.below beld).is, h64.1, h64.2⟩⟩ (fun d hd => by rw [List.mem_singleton.1 hd]; exact hfit) (by simp))
        rw [show cvs [⟨ee, nn, vo, ops⟩] = [⟨ee, nn, ops⟩] from rfl, hfol] at FO
        unfold flv at FO
        simp only at FO
        obtain ⟨ans, hans⟩ : ∃ x, tk l ⟨ee, nn, ops⟩ = x := ⟨_, rfl⟩
        have HA := hide hans
        have hq : (!((fe == 0) && (fp == 0))) = !ans := by
          have := neq_fol l ⟨ee, nn, ops⟩ RC.out.rd.1
          rw [KL.out, KN.out, hfol, hans] at this
          exact this
        have q1 := Tryz.neqF fe fp 0 0
        rw [hq] at q1
        have q2 := Tryz.guardF .neq
        have RD := hide (RC.out.below beld)
        have OD := hide (OC.out.below beld)
        have y0 := (beld.cell (p := ⟨wb.heap.size, 0, none⟩) (show wb.heap.size < wc.heap.size by omega)).trans x0
        have y1 := (beld.cell (p := ⟨wb.heap.size, 1, none⟩) (show wb.heap.size < wc.heap.size by omega)).trans x1
        have y2 := (beld.cell (p := ⟨wb.heap.size, 2, none⟩) (show wb.heap.size < wc.heap.size by omega)).trans x2
        rw [hvo.out] at hwd
        have SZC := hide szc
        clear hfol hans hq OC RC beld rowd szc
        subst hvc
        go_wp2_with fail
        refine FO.out.mono ?_
        rintro E wf ⟨rfl, belf⟩
        have RF := hide (RD.out.below belf)
        have OF := hide (OD.out.below belf)
        have szf := belf.size
        have szc := SZC.out
        have x0 := (belf.cell (p := ⟨wb.heap.size, 0, none⟩) (show wb.heap.size < wd.heap.size by omega)).trans y0
        have x1 := (belf.cell (p := ⟨wb.heap.size, 1, none⟩) (show wb.heap.size < wd.heap.size by omega)).trans y1
        have x2 := (belf.cell (p := ⟨wb.heap.size, 2, none⟩) (show wb.heap.size < wd.heap.size by omega)).trans y2
        clear RD OD FO belf y0 y1 y2 szc
        cases ans with
        | false =>
          have D := hide (RF.out.rd.stopT R.out HC.out HA.out)
          clear R HC HA OF
          go_wp2
          try rw [Exit.noGoto_ret]
          go_ret2
          exact ⟨l, _, rs, by rw [KG.out]; rfl, RF.out.row, RF.out.cop, RF.out.is, RF.out.bel, D⟩
        | true =>
          obtain ⟨g1, g2, g3⟩ := RF.out.rd.next R.out HC.out HA.out
          have gle := g1.le
          have hn1 : 1 ≤ n := by rw [g2]; exact Wl.fr_pos _
          have hrl : rs.length ≤ 1048576 := by
            have := good_len RF.out.rd.1
            rw [← RF.out.is, cvs_length] at this
            exact this
          obtain ⟨wg, hwg, szg, belg, rowg⟩ := coms_step 37 wf #[.int .i64 ee, .int .i64 nn, vo] 1 [⟨ee, nn, vo, ops⟩] rfl rfl (by simp [maxLen])
          rw [hvo.out] at hwg
          have RG := RF.out.below belg
          have OG := hide (OF.out.below belg)
          have szc := SZC.out
          have y0 := (belg.cell (p := ⟨wb.heap.size, 0, none⟩) (show wb.heap.size < wf.heap.size by omega)).trans x0
          have y1 := (belg.cell (p := ⟨wb.heap.size, 1, none⟩) (show wb.heap.size < wf.heap.size by omega)).trans x1
          have e1 : IntKind.i64.wrap ((lg : Int) + (n : Int)) = (lg : Int) + n := wrap_i64_small _ (by rw [← KG.out]; omega) (by rw [← KG.out]; omega)
          have szw := RG.bel.size
          have G1 := hide g1
          have G3 := hide g3
          have RGH := hide RG
          have X := hide (fun ty => run_append_rows_at (P := Tryz.prog) (w := wg) 41 ty ccell 3 40 (fun _ => rfl) (by decide) (by decide) (.agg #[.int .i64 0, .int .i64 0, .slice none 0 0]) rfl 37 w.heap.size Tryz.underlying41 Tryz.info37 (.slice ac rs.length ncap) rs (ownR_g.1 RGH.out.row) _ [⟨ee, nn, vo, ops⟩] (ownR_g.1 rowg).row (by
            rw [← ccells_g]
            exact ccells_cell _ fun d hd => by rw [List.mem_singleton.1 hd]; exact OG.out.is.one) (by simp; omega) (by omega))
          clear RF OF R HC HA g1 g2 g3 RG szc rowg
          go_wp2_with (at_builtin; refine wpList_append_at rfl (.tmp 42) (.tmp 44) 41 rfl _ _ rfl rfl X.out ?_)
          intro v3 w3 own3 gr3 _
          have hlt : wb.heap.size < wg.heap.size := by have := SZC.out; omega
          have B3 : ∀ j, w3.cell? ⟨wb.heap.size, j, none⟩ = wg.cell? ⟨wb.heap.size, j, none⟩ := fun j => World.cell?_of_block (gr3.block _ hlt fun e => Nat.lt_irrefl _ (BK.out _ e.symm))
          have x0 := (B3 0).trans y0
          have x1 := (B3 1).trans y1
          obtain ⟨a3, k3, hv3, _, _⟩ := own3.row.shape
          have FIN : Hid (RsR w w3 bs (l ++ [⟨ee, nn, ops⟩]) v3 (rs ++ [⟨ee, nn, vo, ops⟩])) := hide ⟨G1.out, ownR_g.2 own3, (by
            have kt : KeepT 37 wg w3 := KeepT.of_row RGH.out.row gr3
            exact (RGH.out.cop.keepT kt).snoc (c := ⟨ee, nn, vo, ops⟩) ((OG.out.keepT kt (by decide)).rebase (by have := RGH.out.bel.size; omega))), (by
            rw [cvs, List.map_append, ← cvs, RGH.out.is]
            rfl), RGH.out.bel.grown gr3 szw (fun k hk => (World.ownsRow.lt RGH.out.row k hk).1)⟩
          rw [G3.out] at gle
          rw [KG.out] at G3 gle
          clear own3 gr3 X RGH OG B3
          subst hv3
          go_wp2
          go_quiet (fail)
          go_wp2
          go_roundw
          case rel => exact ⟨l ++ [⟨ee, nn, ops⟩], _, hide (FIN.out.below (by first | exact Below.refl _ _ | exact below_drewN (Below.refl _ _) _)), by rw [G3.out]; go_num, by rw [(Cm.last_snoc l _ 0 0).1], by rw [(Cm.last_snoc l _ 0 0).2], by rw [G3.out]; exact gle⟩
          case measure => simp [intOf]; omega
      · have D := hide (RC.out.rd.stopC R.out HC.out)
        clear R HC OC
        subst hvc
        go_wp2
        try rw [Exit.noGoto_ret]
        go_ret2
        exact ⟨l, _, rs, by rw [KG.out]; rfl, RC.out.row, RC.out.cop, RC.out.is, RC.out.bel, D⟩
    · have D := hide (RA.out.rd.stop R.out)
      obtain ⟨ac, ncap, hvc, _, _⟩ := RA.out.row.row.shape
      subst hvc
      clear R
      go_wp2
      try rw [Exit.noGoto_ret]
      go_ret2
      exact ⟨l, _, rs, by rw [KG.out]; rfl, RA.out.row, RA.out.cop, RA.out.is, RA.out.bel, D⟩

end Go.Proofs.YtmkpaedemjiboaaGreat
