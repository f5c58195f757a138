/- Texts of one layer, one behind the other. -/
import Derived.Test.YtmmfakpphjjjfaaGreatG17
import Derived.Test.YtmmfakpphjjjfaaGreatIter
/- The program's table: what is there as ops, by rising key (ops), All and Live. -/
namespace Go.Proofs.YtmmfakpphjjjfaaGreat
open Go.RowKit Go.Maps Go.Shelf
open Bm (Ov)
set_option linter.unusedVariables false
attribute [local go_sem] Oper.semAt_some

theorem enc_key (o : Ov) : encStr o.kl = .string o.k := by
 unfold encStr Bm.Ov.kl
 rw [Array.toArray_toList]

theorem gv_mem {t : List Ov} {o : Ov} (h : Tm.Up t) (ho : o ∈ t) : gv t o.k = o.v ∧ gp t o.k = o.p := by
 unfold gv gp
 rw [Tm.get_mem h ho]
 exact ⟨rfl, rfl⟩

set_option maxHeartbeats 1000000 in
theorem tops_any (p b : Nat) (w : World) (t : List Ov) (h : Tb p b w t) (hf : FitO t) (hn : t.length ≤ 1000000) :
  Calls Tryz.prog 132 #[.pointer (some ⟨p, 0, none⟩)] w fun E w' => ∃ v, E = .returned v ∧ OwnO 65 w.heap.size w' v t ∧ Below w.heap.size w w' := by
 have HM := hide (tmade_any p b w h.cell)
 have hc := h.cell
 obtain ⟨W1, hW1, sz1, b1, B1⟩ := blk_step w #[.map (some b)] 124
 have HK : Hid (Calls Tryz.prog 160 #[.map (some b)] w fun E w' => E = .returned (.func (.func 175) #[] #[.pointer (some ⟨w.heap.size, 0, none⟩)]) ∧ W1 = w') := hide (by
  refine (callsIn_wide.1 (Tryz.maps_Keys_160 (some b) w)).mono ?_
  rintro E w' ⟨rfl, rfl⟩
  exact ⟨rfl, hW1.symm⟩)
 have HS : Hid (Calls Tryz.prog 159 #[.func (.func 175) #[] #[.pointer (some ⟨w.heap.size, 0, none⟩)]] W1 fun E w' => ∃ v, E = .returned v ∧ w'.ownsRow (w.heap.size + 1) 9 1 v t.length (t.map fun o => .string o.k) ∧ Below (w.heap.size + 1) W1 w') := hide (by
  have := callsIn_wide.1 (Tryz.slices_Sorted_keys_159_160 b t.length (Tm.dat t) Ren w h.own (by rw [Tm.dat_size]; unfold maxLen; omega) (by rw [Tm.dat_size]; omega))
  rw [hW1, sz1] at this
  refine this.mono ?_
  rintro E w' ⟨v, ss, rfl, hp, hr, _, hb⟩
  have e1 := Tm.dat_sorted h.up hp
  have e2 : ss.length = t.length := by
   have := hp.length_eq
   rw [Tm.dat_keys, List.length_map] at this
   exact this
  rw [e1, e2, List.map_map] at hr
  refine ⟨v, rfl, ?_, hb⟩
  have e3 : (t.map fun o => Value.string o.k) = t.map (encStr ∘ Bm.Ov.kl) := List.map_congr_left fun o _ => (enc_key o).symm
  rw [e3]
  exact hr)
 have HT0 := hide h
 have HF := hide hf
 have Hb1 := hide b1
 clear hf h B1 b1
 go_enter Tryz.func132, Tryz.ntmps132
 go_wp2_with fail
 refine HM.out.mono ?_
 rintro E w' ⟨rfl, rfl⟩
 go_wp2_with fail
 refine HK.out.mono ?_
 rintro E w' ⟨rfl, rfl⟩
 go_wp2_with fail
 refine HS.out.mono ?_
 rintro E W2 ⟨v, rfl, hrow, b2⟩
 have b02 : Below w.heap.size w W2 := Hb1.out.trans (b2.mono (by omega))
 have HT2 := hide (HT0.out.below b02)
 have sz2 : w.heap.size + 1 ≤ W2.heap.size := by have := b2.size; omega
 obtain ⟨n, hnn⟩ : ∃ n, t.length = n := ⟨_, rfl⟩
 have HROW : Hid (∀ (k : Nat) (o : Ov), t[k]? = some o → ∃ g cap, v = .slice (some ⟨g, 0, none⟩) n cap ∧ g < W2.heap.size ∧ W2.cell? ⟨g, k, none⟩ = some (.string o.k)) := hide (by
  intro k o ho
  have hk : k < t.length := (List.getElem?_eq_some_iff.1 ho).1
  rcases hrow.2 with ⟨hv, h0⟩ | ⟨g, cap, cur, hv, h1, hh, _⟩
  ·omega
  ·have hb : v.ownBlock = some g := by rw [hv]; rfl
   have := hrow.cells hb k (.string o.k) (by rw [List.getElem?_map, ho]; rfl)
   refine ⟨g, cap, by rw [hv, hnn], blk_lt hh, ?_⟩
   rw [add_at, Nat.zero_add] at this
   exact this)
 obtain ⟨ao, cap, hv⟩ : ∃ ao cap, v = .slice ao n cap := by
  rcases hrow.2 with ⟨hv, h0⟩ | ⟨g, cap, cur, hv, h1, hh, _⟩
  ·exact ⟨none, 0, by rw [hv, ← hnn, h0]⟩
  ·exact ⟨_, cap, by rw [hv, hnn]⟩
 subst hv
 have HN := hide hnn
 rw [hnn] at hn
 have Hb02 := hide b02
 clear hrow b2 hc hnn b02
 go_wp2
 go_loopw [17, 3] (fun i ov wr => ∃ (k : Nat), k ≤ n ∧ i = .int .i64 k ∧ Hid (OwnO 65 W2.heap.size wr ov (t.take k)) ∧ Below W2.heap.size W2 wr) (fun i _ _ => n - (intOf i).toNat)
 case atStart => exact ⟨0, by omega, rfl, hide (OwnO.nil _ _ _), Below.refl _ _⟩
 case round =>
  obtain ⟨k, hk, rfl, HOW, bel⟩ := hrel
  have sz := bel.size
  by_cases hlt : k < n
  ·obtain ⟨o, ho⟩ : ∃ o, t[k]? = some o := ⟨t[k]'(by have := HN.out; omega), by rw [List.getElem?_eq_getElem]⟩
   have hlt' : (k : Int) < n := by omega
   obtain ⟨g, cq, hvx, hg, hcell⟩ := HROW.out k o ho
   simp only [Value.slice.injEq, true_and] at hvx
   obtain ⟨rfl, rfl⟩ := hvx
   have d0 := (bel.cell (p := ⟨g, k, none⟩) hg).trans hcell
   have Tr := HT2.out.below bel
   have hm := List.mem_of_getElem? ho
   obtain ⟨f1, f2⟩ := HF.out o hm
   obtain ⟨e1, e2⟩ := gv_mem Tr.up hm
   have hlk := look_tb Tr o.k (by unfold maxLen; omega) false
   rw [e1, e2] at hlk
   unfold env at hlk
   have pc := Tr.cell
   obtain ⟨W3, hW3, sz3, b3, B3⟩ := blk_step wr #[.string o.v, .bool o.p] 160
   have x0 := blk_cell B3 0 rfl
   have x1 := blk_cell B3 1 rfl
   obtain ⟨W4, hW4, sz4, b4, own4⟩ := ops_step 65 W3 #[.bool o.p, .string o.k, .string o.v] 1 [o] rfl rfl (by simp [maxLen])
   have b34 : Below wr.heap.size wr W4 := b3.trans (b4.mono (by omega))
   have b24 : Below W2.heap.size W2 W4 := bel.trans (b34.mono sz)
   have ownW := HOW.out.below b34
   have is4 := own4.is
   have hlen : ((t.take k).length + [o].length) * 40 ≤ 140737488355328 := by rw [List.length_take]; simp; omega
   have hz4 : W2.heap.size ≤ W4.heap.size := b24.size
   have HO := hide ho
   have HB24 := hide b24
   clear Tr e1 e2 ho hm B3 b3 b4 own4 b34 b24 hcell bel HOW
   simp only [if_false, Bool.false_eq_true] at hlk
   rw [sz3] at is4
   go_wp2_with (at_builtin; refine wpList_append_ops rfl (.tmp 27) (.tmp 34) 48 rfl 65 W2.heap.size Tryz.underlying48 Tryz.info65 _ (t.take k) rfl ownW _ [o] rfl is4 hlen hz4 ?_)
   rintro v' w' ho' hb' _
   have HO2 : Hid (OwnO 65 W2.heap.size w' v' (t.take (k + 1))) := hide (by
    obtain ⟨hk', hk2⟩ := List.getElem?_eq_some_iff.1 HO.out
    rw [List.take_succ_eq_append_getElem hk', hk2]
    exact ho')
   have HB2 := hide (HB24.out.trans hb')
   clear ho' hb' ownW is4 d0 hlk pc hW3 hW4
   go_wp2
   go_roundw
   case rel => exact ⟨k + 1, by omega, by go_num, HO2, HB2.out⟩
   case measure => simp [intOf]; omega
  ·have hlt' : ¬ (k : Int) < n := by omega
   have HE : Hid (OwnO 65 W2.heap.size wr _ t) := hide (by
    have h1 := HOW.out
    rw [List.take_of_length_le (by have := HN.out; omega)] at h1
    exact h1)
   go_wp2
   go_ret
   exact ⟨_, rfl, HE.out.rebase (by omega), Hb02.out.trans (bel.mono (by omega))⟩

def SeqT (B base : Nat) (w : World) (t : List Ov) : Prop := base ≤ B ∧ ∃ v, w.heap[B]? = some (.cells #[v] 48 (0, 0)) ∧ OwnO 65 base w v t

theorem SeqT.below {B base : Nat} {w w' : World} {t : List Ov} (h : SeqT B base w t) (hb : Below w.heap.size w w') : SeqT B base w' t := by
 obtain ⟨h1, v, h2, h3⟩ := h
 exact ⟨h1, v, (hb.block B (blk_lt h2)).trans h2, h3.below hb⟩

theorem seqt_of {w W1 W2 : World} {v : Value} {t : List Ov} (ho : OwnO 65 w.heap.size W1 v t) (b1 : Below w.heap.size w W1) (hB : W2.heap[W1.heap.size]? = some (.cells #[v] 48 (0, 0))) (b2 : Below W1.heap.size W1 W2) : SeqT W1.heap.size w.heap.size W2 t ∧ Below w.heap.size w W2 :=
 ⟨⟨b1.size, v, hB, ho.below b2⟩, b1.trans (b2.mono b1.size)⟩

theorem tall_of (tv : Value) (w : World) (t : List Ov) (hm : Calls Tryz.prog 132 #[tv] w fun E w' => ∃ v, E = .returned v ∧ OwnO 65 w.heap.size w' v t ∧ Below w.heap.size w w') :
  Calls Tryz.prog 92 #[tv] w fun E w' => ∃ B, E = .returned (.func (.func 158) #[] #[.pointer (some ⟨B, 0, none⟩)]) ∧ SeqT B w.heap.size w' t ∧ Below w.heap.size w w' := by
 have HM := hide hm
 clear hm
 go_enter Tryz.func92, Tryz.ntmps92
 go_wp2_with fail
 refine HM.out.mono ?_
 rintro E W1 ⟨v, rfl, ho, b1⟩
 obtain ⟨W2, hW2, sz2, b2, B2⟩ := blk_step W1 #[v] 48
 have HE := hide (seqt_of ho b1 B2 b2)
 have HV : Hid (Calls Tryz.prog 131 #[v] W1 fun E w' => E = .returned (.func (.func 158) #[] #[.pointer (some ⟨W1.heap.size, 0, none⟩)]) ∧ W2 = w') := hide (by
  obtain ⟨ao, cap, hv, _, _⟩ := ho.is.shape
  subst hv
  clear HM HE ho b1 b2 B2
  go_enter Tryz.func131, Tryz.ntmps131
  go_wp2
  go_ret
  exact ⟨rfl, rfl⟩)
 clear ho b1 b2 B2 hW2
 go_wp2_with fail
 refine HV.out.mono ?_
 rintro E w' ⟨rfl, rfl⟩
 go_wp2
 go_ret
 exact ⟨_, rfl, HE.out⟩

theorem tlive_of (tv : Value) (w : World) (t : List Ov) (hm : Calls Tryz.prog 132 #[tv] w fun E w' => ∃ v, E = .returned v ∧ OwnO 65 w.heap.size w' v t ∧ Below w.heap.size w w') :
  Calls Tryz.prog 103 #[tv] w fun E w' => ∃ B, E = .returned (.func (.func 143) #[] #[.pointer (some ⟨B, 0, none⟩)]) ∧ SeqT B w.heap.size w' t ∧ Below w.heap.size w w' := by
 have HM := hide hm
 clear hm
 go_enter Tryz.func103, Tryz.ntmps103
 go_wp2_with fail
 refine HM.out.mono ?_
 rintro E W1 ⟨v, rfl, ho, b1⟩
 obtain ⟨ao, cap, hv, _, _⟩ := ho.is.shape
 subst hv
 obtain ⟨W2, hW2, sz2, b2, B2⟩ := blk_step W1 #[.slice ao t.length cap] 48
 have HE := hide (seqt_of ho b1 B2 b2)
 clear ho b1 b2 B2
 go_wp2
 go_ret
 exact ⟨_, rfl, HE.out⟩

end Go.Proofs.YtmmfakpphjjjfaaGreat
