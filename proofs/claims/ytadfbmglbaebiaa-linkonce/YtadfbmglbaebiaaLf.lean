/- The program's link: Flight, numbers, All. -/
import Derived.Test.YtadfbmglbaebiaaLe
namespace Go.Proofs.Ytadfbmglbaebiaa
open Go.RowKit Go.Shelf
set_option linter.unusedVariables false

/-- One cell of a row is written. -/
theorem OwnG.set {α : Type} {f : α → List Value} {k : Nat} (hk : ∀ a, (f a).length = k) {e base g n cap : Nat} {w : World} {l : List α} (h : OwnG f k e base w (.slice (some ⟨g, 0, none⟩) n cap) l) {i : Nat} {a b : α} (hi : l[i]? = some a) {j : Nat} {u : Value} (hj : j < k) (hb : (f a).set j u = f b) : OwnG f k e base (w.setCell ⟨g, i * k + j, none⟩ u) (.slice (some ⟨g, 0, none⟩) n cap) (l.set i b) := by
  unfold OwnG at h ⊢
  rw [List.length_set, ← gcells_set hk l i a b hi j u hj hb]
  refine ⟨by rw [List.length_set]; exact h.1, ?_⟩
  rcases h.2 with ⟨h', _⟩ | ⟨g', cap', cur, h', hb', hg, hnc, hcm, hcs, htake⟩
  · simp at h'
  · have h'' := h'
    simp only [Value.slice.injEq, Option.some.injEq, Addr.mk.injEq, and_true] at h''
    obtain ⟨rfl, hn, rfl⟩ := h''
    refine .inr ⟨g, cap, cur.setIfInBounds (i * k + j) u, h', hb', set_cells hg _ _, hnc, hcm, by simpa using hcs, ?_⟩
    rw [← htake, Array.toList_setIfInBounds, List.take_set]

/-- A copy of a row of letters. -/
def LCopy (base : Nat) (w : World) (v : Value) (ns : List Lw) : Prop :=
  OwnG letc 3 31 base w v ns ∧ (∀ r ∈ ns, Own .u8 5 base w r.v r.bs) ∧ ns.Pairwise fun x y => ∀ b, x.v.ownBlock = some b → y.v.ownBlock ≠ some b

theorem LCopy.below {base : Nat} {w w' : World} {v : Value} {ns : List Lw} (h : LCopy base w v ns) (hb : Below w.heap.size w w') : LCopy base w' v ns :=
  ⟨h.1.agree fun b hb' => hb.block b (h.1.lt b hb').2, fun r hr => (h.2.1 r hr).below hb, h.2.2⟩

theorem LCopy.nil (base : Nat) (w : World) : LCopy base w (.slice none 0 0) [] := ⟨OwnG.nil _ _ _ _ _, by simp, by simp⟩

theorem Try.eqnilL (w : World) (a : Option Addr) (n c : Nat) : (binOp .eql 45 (.slice a n c) (.slice none 0 0)).run Try.prog w = .ok (.bool a.isNone) w := Lib.run_eql_slice_nil w 45 31 a n c 0 0 Try.underlying45

set_option maxHeartbeats 1000000 in
theorem lclone_any (v : Value) (rs : List Lw) (w : World) (h : RowG letc w v rs) (hs : ∀ r ∈ rs, ∃ a n c, r.v = .slice a n c) (hl : rs.length ≤ 1000000) :
    Calls Try.prog 38 #[v] w fun E w' => ∃ v', E = .returned v' ∧ OwnG letc 3 31 w.heap.size w' v' rs ∧ Below w.heap.size w w' := by
  rcases h with ⟨hv, hz⟩ | ⟨ad, cap, hv, h1, h2, hc⟩
  · subst hz hv
    have hq := Try.eqnilL w none 0 0
    go_enter Try.func38, Try.ntmps38
    go_wp2
    go_ret
    exact ⟨_, rfl, OwnG.nil _ _ _ _ _, Below.refl _ _⟩
  · obtain ⟨w1, hw1, sz1, bel1, own1⟩ := rows_step letc 3 letc_len 31 w #[] 0 [] rfl rfl (by simp)
    have hq := Try.eqnilL w (some ad) rs.length cap
    simp only [Option.isNone_some] at hq
    have h1' : RowG letc w1 (.slice (some ad) rs.length cap) rs := (RowG.below (f := letc) (.inr ⟨ad, cap, rfl, h1, h2, hc⟩) bel1)
    subst hv
    have X : Hid (∀ ty, ∃ v' w', (Builtin.append_ #[45, 45] ty #[.slice (some ⟨w.heap.size, 0, none⟩) 0 0, .slice (some ad) rs.length cap]).run Try.prog w1 = .ok v' w' ∧ (OwnG letc 3 31 w.heap.size w' v' rs ∧ Below w.heap.size w w')) := hide fun ty => by
      obtain ⟨v', w', hr, ho, hg, _⟩ := run_append_rows_at (P := Try.prog) (w := w1) 45 ty letc 3 40 letc_len (by decide) (by decide) (.agg #[.int .i64 0, .int .i64 0, .slice none 0 0]) rfl 31 w.heap.size Try.underlying45 Try.info31 _ [] own1 _ rs h1' (letc_one _ hs) (by simp; omega) (by omega)
      exact ⟨v', w', hr, by simpa using ho, bel1.grown hg (by omega) fun k hk => by simp [Value.ownBlock] at hk; omega⟩
    clear own1 h1' hc
    go_enter Try.func38, Try.ntmps38
    go_wp2_with (at_builtin; refine wpList_append_at rfl (.tmp 5) (.tmp 6) 45 rfl _ _ rfl rfl X.out ?_)
    intro v2 w2 own2 bel2
    go_wp2
    go_ret
    exact ⟨_, rfl, own2, bel2⟩

set_option maxRecDepth 100000 in
set_option maxHeartbeats 4000000 in
theorem flight_any (p : Nat) (F : Nat → Prop) (w : World) (st : Lm.Ls) (h : Lk false p F w st) (hok : Lm.Ok st) :
    Calls Try.prog 20 #[.pointer (some ⟨p, 0, none⟩)] w fun E w' => ∃ v ns, E = .returned v ∧ LCopy w.heap.size w' v ns ∧ ns.map Lw.l = st.fl ∧ Below w.heap.size w w' := by
  have HM := hide (made_any p F w st h)
  obtain ⟨vr, rs, h⟩ := h
  have c2 := h.p2
  have hfl := h.fl
  have hlr := h.len
  have hl5 := hok.len
  have CL := hide (lclone_any vr rs w h.row.row (fun r hr => (h.raw r hr).1.form) (by omega))
  have HB := hide fun r hr => (h.raw r hr).1
  have HBL : Hid (∀ r ∈ rs, r.bs.length ≤ 40) := hide fun r hr => (hok.each r.l (by rw [← hfl]; exact List.mem_map_of_mem hr)).2.2.2
  have HFL := hide hfl
  obtain ⟨ao, cap, hvr, _, _⟩ := h.row.row.shape
  rw [hvr] at c2 CL
  have hLn : rs.length ≤ 512 := by omega
  clear h hok hvr hfl hlr hl5
  go_enter Try.func20, Try.ntmps20
  go_wp2_with fail
  refine HM.out.mono ?_
  rintro E w1 ⟨rfl, rfl⟩
  go_wp2_with fail
  refine CL.out.mono ?_
  rintro E w1 ⟨v1, rfl, own1, bel1⟩
  obtain ⟨a1, cap1, hv1, hc1, hcm1⟩ := own1.row.shape
  subst hv1
  have HG := hide (fun (h0 : 0 < rs.length) => (show ∃ g, a1 = some ⟨g, 0, none⟩ ∧ w.heap.size ≤ g by
    rcases own1.2 with ⟨_, h1⟩ | ⟨g, cap', cur, h1, h2, _⟩
    · omega
    · simp only [Value.slice.injEq, true_and] at h1
      exact ⟨g, h1.1, h2⟩))
  have I0 : Hid (∃ ns, ns.length = 0 ∧ ns.map Lw.l = (rs.take 0).map Lw.l ∧ OwnG letc 3 31 w.heap.size w1 (.slice a1 rs.length cap1) (ns ++ rs.drop 0) ∧ (∀ r ∈ ns, Own .u8 5 w.heap.size w1 r.v r.bs) ∧ ns.Pairwise fun x y => ∀ b, x.v.ownBlock = some b → y.v.ownBlock ≠ some b) := hide ⟨[], rfl, rfl, own1, by simp, by simp⟩
  clear own1
  go_wp2
  go_loopw [15] (fun iv wr => ∃ k : Nat, k ≤ rs.length ∧ iv = .int .i64 k ∧ Hid (∃ ns, ns.length = k ∧ ns.map Lw.l = (rs.take k).map Lw.l ∧ OwnG letc 3 31 w.heap.size wr (.slice a1 rs.length cap1) (ns ++ rs.drop k) ∧ (∀ r ∈ ns, Own .u8 5 w.heap.size wr r.v r.bs) ∧ ns.Pairwise fun x y => ∀ b, x.v.ownBlock = some b → y.v.ownBlock ≠ some b) ∧ Below w.heap.size w wr) (fun iv _ => rs.length - (intOf iv).toNat)
  case atStart => exact ⟨0, by omega, rfl, I0, bel1⟩
  case round =>
    obtain ⟨k, hk, rfl, HT, bel⟩ := hrel
    by_cases hlt : k < rs.length
    · obtain ⟨g, rfl, hg0⟩ := HG.out (by omega)
      obtain ⟨ns, hn, hm, own, hown, hpw⟩ := HT.out
      obtain ⟨r, hr⟩ : ∃ r, rs[k]? = some r := ⟨rs[k], by rw [List.getElem?_eq_getElem]⟩
      have hdr : rs.drop k = r :: rs.drop (k + 1) := by
        rw [List.drop_eq_getElem_cons hlt]
        congr 1
        rw [List.getElem?_eq_getElem hlt] at hr
        simpa using hr
      have hat : (ns ++ rs.drop k)[k]? = some r := by
        rw [List.getElem?_append_right (by omega), hn, Nat.sub_self, hdr]
        rfl
      obtain ⟨cs, hgb⟩ := own.type (g := g) rfl
      have hcell := own.cells (show (Value.slice (some ⟨g, 0, none⟩) rs.length cap1).ownBlock = some g from rfl) (k * 3 + 2) _ (gcells_at letc_len _ k r hat 2 _ rfl)
      have e2 : wr.cell? ⟨g, k * 3 + 2, none⟩ = some r.v := by simpa [add_at] using hcell
      have f2 : wr.frozen? ⟨g, k * 3 + 2, none⟩ = false := blk_froz hgb _
      have isr := (HB.out r (List.mem_of_getElem? hr)).below bel
      have sz := bel.size
      have hbl := HBL.out r (List.mem_of_getElem? hr)
      have CB : Hid (Calls Try.prog 39 #[r.v] wr fun E wc => ∃ v6, E = .returned v6 ∧ (wc.cell? ⟨g, k * 3 + 2, none⟩ = some r.v ∧ wc.frozen? ⟨g, k * 3 + 2, none⟩ = false ∧ (∃ a n c, v6 = .slice a n c) ∧ (∃ ns, ns.length = k + 1 ∧ ns.map Lw.l = (rs.take (k + 1)).map Lw.l ∧ OwnG letc 3 31 w.heap.size (wc.setCell ⟨g, k * 3 + 2, none⟩ v6) (.slice (some ⟨g, 0, none⟩) rs.length cap1) (ns ++ rs.drop (k + 1)) ∧ (∀ r ∈ ns, Own .u8 5 w.heap.size (wc.setCell ⟨g, k * 3 + 2, none⟩ v6) r.v r.bs) ∧ ns.Pairwise fun x y => ∀ b, x.v.ownBlock = some b → y.v.ownBlock ≠ some b) ∧ Below w.heap.size w (wc.setCell ⟨g, k * 3 + 2, none⟩ v6))) := hide (by
        refine (bclone_any r.v r.bs wr isr (by omega)).mono ?_
        rintro E wc ⟨v6, rfl, own6, bel6⟩
        have glt := blk_lt hgb
        have hgc := (bel6.block g glt).trans hgb
        have ne : ∀ (u : Value) (zs : List Int) (base : Nat), Own .u8 5 base wc u zs → ∀ b, u.ownBlock = some b → b ≠ g := fun u zs base ho b hb e => by
          obtain ⟨cs', hc'⟩ := ho.type hb
          rw [e, hgc] at hc'
          simp at hc'
        refine ⟨v6, rfl, (bel6.cell (p := ⟨g, k * 3 + 2, none⟩) glt).trans e2, blk_froz hgc _, own6.is.form, ⟨ns ++ [⟨r.n, r.to, v6, r.bs⟩], by simp [hn], ?_, ?_, fun x hx => ?_, ?_⟩, ?_⟩
        · rw [List.map_append, hm, List.take_succ_eq_append_getElem hlt, List.map_append]
          rw [List.getElem?_eq_getElem hlt] at hr
          simp at hr
          rw [hr]
          rfl
        · have := (own.agree (w' := wc) fun b hb => bel6.block b (own.lt b hb).2).set letc_len hat (j := 2) (u := v6) (b := ⟨r.n, r.to, v6, r.bs⟩) (by decide) rfl
          rw [List.set_append_right _ _ (by omega), hn, Nat.sub_self, hdr] at this
          simpa using this
        · rcases List.mem_append.1 hx with hx | hx
          · have h1 := (hown x hx).below bel6
            exact h1.agree fun b hb => Below.heap_setCell _ _ _ _ (ne _ _ _ h1 b hb)
          · simp only [List.mem_singleton] at hx
            subst hx
            exact (own6.rebase sz).agree fun b hb => Below.heap_setCell _ _ _ _ (ne _ _ _ own6 b hb)
        · rw [List.pairwise_append]
          refine ⟨hpw, by simp, fun x hx y hy b hb e => ?_⟩
          simp only [List.mem_singleton] at hy
          subst hy
          have h1 := ((hown x hx).block b hb).2
          have h2 := (own6.block b e).1
          omega
        · have h1 := bel.trans (bel6.mono sz)
          exact h1.grown (grown_setCell wc ⟨g, k * 3 + 2, none⟩ v6) h1.size fun j hj => by simp at hj; omega)
      obtain ⟨ar, nr, cr, hrv⟩ := isr.form
      have hk0 : (0 : Int) ≤ (k : Int) := by omega
      have hkl : (k : Int) < rs.length := by omega
      rw [hrv] at e2 CB
      clear own hown hpw hm hn hcell hr hdr hat isr hrv hgb
      go_wp2_with fail
      refine CB.out.mono ?_
      rintro E wc ⟨v6, rfl, c6, f6, ⟨a6, n6, k6, rfl⟩, J, bJ⟩
      have J := hide J
      go_wp2
      go_roundw
      case rel => exact ⟨k + 1, by omega, by go_num, J, bJ⟩
      case measure => simp [intOf]; omega
    · have hkl : ¬ (k : Int) < rs.length := by omega
      have J : Hid (∃ ns, LCopy w.heap.size wr (.slice a1 rs.length cap1) ns ∧ ns.map Lw.l = st.fl) := hide (by
        obtain ⟨ns, hn, hm, own, hown, hpw⟩ := HT.out
        rw [List.drop_eq_nil_of_le (by omega), List.append_nil] at own
        exact ⟨ns, ⟨own, hown, hpw⟩, by rw [hm, List.take_of_length_le (by omega), HFL.out]⟩)
      clear HT
      go_wp2
      go_ret
      obtain ⟨ns, h1, h2⟩ := J.out
      exact ⟨_, rfl, ns, h1, h2, bel⟩

end Go.Proofs.Ytadfbmglbaebiaa
