/- Texts of one layer, one behind the other. -/
import Derived.Test.YtofbnkeglhhnlaaGA
import Derived.Test.YtofbnkeglhhnlaaG4
/- The document's txn: Put, Delete, Drop, Undo, Done. -/
namespace Go.Proofs.Ytofbnkeglhhnlaa
open Go.RowKit
open Bm (Ov)
set_option linter.unusedVariables false

theorem nput_any (p : Nat) (F : Nat → Prop) (w : World) (s : Tx.St) (k v : ByteArray) (h : Nxt p F w s) (hk : k.size ≤ 140737488351232) (hv : v.size ≤ 140737488351232) :
    Calls Try.prog 30 #[.pointer (some ⟨p, 0, none⟩), .string k, .string v] w fun E w' => E = .returned (.int .i64 (Tx.addE s ⟨true, k, v⟩)) ∧ NxS p F w w' (Tx.add s ⟨true, k, v⟩) := by
  have HA := hide (nadd_any p F w s ⟨true, k, v⟩ h hk hv)
  generalize Tx.addE s ⟨true, k, v⟩ = e at HA ⊢
  generalize Tx.add s ⟨true, k, v⟩ = s' at HA ⊢
  clear h
  go_enter Try.func30, Try.ntmps30
  go_wp2_with fail
  refine HA.out.mono ?_
  rintro E w2 ⟨rfl, h2⟩
  go_wp2
  go_ret
  exact ⟨rfl, h2⟩

theorem ndel_any (p : Nat) (F : Nat → Prop) (w : World) (s : Tx.St) (k : ByteArray) (h : Nxt p F w s) (hk : k.size ≤ 140737488351232) :
    Calls Try.prog 31 #[.pointer (some ⟨p, 0, none⟩), .string k] w fun E w' => E = .returned (.int .i64 (Tx.addE s ⟨false, k, ⟨#[]⟩⟩)) ∧ NxS p F w w' (Tx.add s ⟨false, k, ⟨#[]⟩⟩) := by
  have HA := hide (nadd_any p F w s ⟨false, k, ⟨#[]⟩⟩ h hk (by show (0 : Nat) ≤ _; omega))
  generalize Tx.addE s ⟨false, k, ⟨#[]⟩⟩ = e at HA ⊢
  generalize Tx.add s ⟨false, k, ⟨#[]⟩⟩ = s' at HA ⊢
  clear h
  go_enter Try.func31, Try.ntmps31
  go_wp2_with fail
  refine HA.out.mono ?_
  rintro E w2 ⟨rfl, h2⟩
  go_wp2
  go_ret
  exact ⟨rfl, h2⟩

/-- A txn is over. -/
theorem n_over {p : Nat} {w : World} {s : Tx.St} {v : Value} (hv : NxV p w s v) :
    ∃ W, w.setCell ⟨p, 2, none⟩ (.bool true) = W ∧ w.cell? ⟨p, 2, none⟩ = some (.bool s.ov) ∧ w.frozen? ⟨p, 2, none⟩ = false ∧ NxV p W (Tx.drp s) v ∧ Out (NB p v) w W := by
  obtain ⟨X, hX, bX, gX, fX⟩ := put_c hv.blk 2 (.bool true)
  refine ⟨X, hX, blk_cell hv.blk 2 rfl, fX, ⟨bX, row_agree hv.row fun g hg => gX.block g (hv.row.block g hg).2 fun e => ?_, Tx.ok_drp hv.ok⟩, Out.of_grown gX fun g hg => .inl (by simpa using hg.symm)⟩
  simp at e
  exact hv.ne (e ▸ hg)

def Tx.drpE (s : Tx.St) : Int := Tx.ask s
def Tx.drpS (s : Tx.St) : Tx.St := if s.ov = true then s else Tx.drp s

set_option maxHeartbeats 400000 in
theorem ndrop_any (p : Nat) (F : Nat → Prop) (w : World) (s : Tx.St) (h : Nxt p F w s) :
    Calls Try.prog 34 #[.pointer (some ⟨p, 0, none⟩)] w fun E w' => E = .returned (.int .i64 (Tx.ask s)) ∧ NxS p F w w' (Tx.drpS s) := by
  have HA := hide (nasked_any p F w s h)
  have HX := hide h
  cases hs : s.ov with
  | true =>
    rw [show Tx.drpS s = s from if_pos hs]
    rw [Tx.ask_ov hs] at HA ⊢
    clear h
    go_enter Try.func34, Try.ntmps34
    go_wp2_with fail
    refine HA.out.mono ?_
    rintro E w2 ⟨rfl, rfl⟩
    go_wp2
    go_ret
    exact ⟨rfl, NxS.refl HX.out (Below.refl _ _)⟩
  | false =>
    rw [show Tx.drpS s = Tx.drp s from if_neg (by rw [hs]; decide)]
    rw [Tx.ask_on hs] at HA ⊢
    obtain ⟨v, hv, hF⟩ := h
    obtain ⟨W, hW, c2, f2, nW, oW⟩ := n_over hv
    have NW := hide nW
    have OW := hide oW
    have HF := hide hF
    clear hv hF nW oW HX
    go_enter Try.func34, Try.ntmps34
    go_wp2_with fail
    refine HA.out.mono ?_
    rintro E w2 ⟨rfl, rfl⟩
    go_wp2
    go_ret
    exact ⟨rfl, by rw [HF.out]; exact ⟨_, ⟨v, NW.out, rfl⟩, OW.out, fun g hg => .inl hg⟩⟩

/-- Ops in memory of their own. -/
theorem nown_any (v : Value) (l : List Ov) (w : World) (h : IsO w v l) (hl : l.length ≤ 1000000) :
    Calls Try.prog 41 #[v] w fun E w' => ∃ v', E = .returned v' ∧ OwnO 36 w.heap.size w' v' l ∧ Below w.heap.size w w' := by
  have HR : Hid (∀ ty, ∃ v' w', (Builtin.append_ #[31, 31] ty #[.slice none 0 0, v]).run Try.prog w = .ok v' w' ∧ OwnO 36 w.heap.size w' v' l ∧ Below w.heap.size w w' ∧ ∃ a n k, v' = .slice a n k) := hide fun ty => by
    obtain ⟨v2, w2, hr, own2, gr2, at2⟩ := run_append_ops_at (P := Try.prog) (w := w) 31 ty 36 w.heap.size Try.underlying31 Try.info36 (.slice none 0 0) [] (OwnO.nil _ _ _) v l h (by simp; omega) (Nat.le_refl _)
    rw [List.nil_append] at own2
    refine ⟨v2, w2, hr, own2, (Below.refl _ _).grown gr2 (Nat.le_refl _) fun k hk => by simp [Value.ownBlock] at hk, ?_⟩
    obtain ⟨a1, k1, h1, _⟩ := own2.is.shape
    exact ⟨a1, _, k1, h1⟩
  obtain ⟨a, k, rfl, _, _⟩ := h.shape
  clear h
  go_enter Try.func41, Try.ntmps41
  go_wp2_with (at_builtin; refine wpList_append_at rfl (.tmp 4) (.tmp 5) 31 rfl (.slice none 0 0) (.slice a l.length k) rfl rfl HR.out ?_; rintro v8 w8 ⟨o8, b8, a8, n8, k8, rfl⟩)
  go_wp2
  go_ret
  exact ⟨_, rfl, o8, b8⟩

theorem Try.elemOp : Try.prog.underlying 31 = some (.slice (Try.prog.elem 31)) := by kernel_rfl
theorem Try.sizeOp (wx : World) : (sizeOf (Try.prog.elem 31)).run Try.prog wx = .ok 3 wx := by kernel_rfl

/-- A txn's row is another one's. -/
theorem n_row {p : Nat} {w wc : World} {s : Tx.St} {v v2 : Value} {l : List Ov} (hv : NxV p w s v) (hb : Below w.heap.size w wc) (h2 : OwnO 36 w.heap.size wc v2 l) (hok : Tx.Ok ⟨l, s.ov⟩) :
    ∃ W, wc.setCell ⟨p, 1, none⟩ v2 = W ∧ wc.cell? ⟨p, 1, none⟩ = some v ∧ wc.frozen? ⟨p, 1, none⟩ = false ∧ NxV p W ⟨l, s.ov⟩ v2 ∧ Out (NB p v) w W ∧ ∀ g, NB p v2 g → NB p v g ∨ w.heap.size ≤ g := by
  have hc := hv.below hb
  obtain ⟨X, hX, bX, gX, fX⟩ := put_c hc.blk 1 v2
  have hlt := blk_lt hv.blk
  have r1 : OwnO 36 w.heap.size X v2 l := row_agree h2 fun g hg => gX.block g (h2.block g hg).2 fun e => by
    have := (h2.block g hg).1
    simp at e
    omega
  have r2 : OwnO 36 0 X v2 l := r1.rebase (Nat.zero_le _)
  refine ⟨X, hX, blk_cell hc.blk 1 rfl, fX, ⟨bX, r2, hok⟩, (Out.of_below (F := NB p v) hb).trans (Out.of_grown (F := NB p v) gX fun g hg => .inl (by simpa using hg.symm)) fun g hg => .inl hg, ?_⟩
  rintro g (e | e)
  · exact .inl (.inl e)
  · exact .inr (h2.block g e).1

set_option maxRecDepth 20000 in
set_option maxHeartbeats 1000000 in
theorem nundo_any (p : Nat) (F : Nat → Prop) (w : World) (s : Tx.St) (n : Int) (h : Nxt p F w s) :
    Calls Try.prog 32 #[.pointer (some ⟨p, 0, none⟩), .int .i64 n] w fun E w' => E = .returned (.int .i64 (Tx.undE s n)) ∧ NxS p F w w' (Tx.und s n) := by
  have HA := hide (nasked_any p F w s h)
  have HX := hide h
  cases hs : s.ov with
  | true =>
    have e1 : Tx.undE s n = 6 := by unfold Tx.undE; rw [if_pos hs]
    have e2 : Tx.und s n = s := by unfold Tx.und; rw [if_neg (by rw [e1]; decide)]
    rw [Tx.ask_ov hs] at HA
    rw [e1, e2]
    clear h e1 e2
    go_enter Try.func32, Try.ntmps32
    go_wp2_with fail
    refine HA.out.mono ?_
    rintro E w2 ⟨rfl, rfl⟩
    go_wp2
    go_ret
    exact ⟨rfl, NxS.refl HX.out (Below.refl _ _)⟩
  | false =>
    rw [Tx.ask_on hs] at HA
    obtain ⟨v, hv, hF⟩ := h
    obtain ⟨la, lk, hlv, _, _⟩ := hv.row.is.shape
    have c1 : w.cell? ⟨p, 1, none⟩ = some (.slice la s.l.length lk) := by rw [← hlv]; exact blk_cell hv.blk 1 rfl
    by_cases hn : 0 ≤ n ∧ n ≤ (s.l.length : Int)
    · have e1 : Tx.undE s n = 0 := by unfold Tx.undE; rw [if_neg (by rw [hs]; decide), if_pos hn]
      have e2 : Tx.und s n = ⟨s.l.take n.toNat, false⟩ := by unfold Tx.und; rw [if_pos e1]
      have hok := Tx.ok_und hv.ok n
      rw [e2] at hok
      rw [e1, e2]
      obtain ⟨k, hk⟩ : ∃ k : Nat, n = (k : Int) := ⟨n.toNat, by omega⟩
      subst hk
      have hkl : k ≤ s.l.length := by omega
      have h8 := hv.ok.1
      rw [Int.toNat_natCast] at hok ⊢
      obtain ⟨v4, hs4, i4⟩ := hv.row.is.slice_h Try.elemOp Try.sizeOp k hkl
      have HO := hide (nown_any v4 _ w i4 (by rw [List.length_take]; omega))
      obtain ⟨a4, n4, k4, hv4⟩ : ∃ a n k, v4 = .slice a n k := by
        obtain ⟨c1, c2, c3, _⟩ := i4.shape
        exact ⟨c1, _, c2, c3⟩
      have HR : Hid (∀ wc v2, Below w.heap.size w wc → OwnO 36 w.heap.size wc v2 (s.l.take k) → _) := hide fun wc v2 hb h2 => n_row hv hb h2 (show Tx.Ok ⟨s.l.take k, s.ov⟩ from by rw [hs]; exact hok)
      rw [hlv] at hs4 HR hF
      subst hv4
      have HF := hide hF
      have k0 : ¬ (k : Int) < 0 := by omega
      have k1 : ¬ (s.l.length : Int) < k := by omega
      clear e1 e2 hn hF hlv hv i4 hok
      go_enter Try.func32, Try.ntmps32
      go_wp2_with fail
      refine HA.out.mono ?_
      rintro E w2 ⟨rfl, rfl⟩
      go_wp2_with fail
      refine HO.out.mono ?_
      rintro E w3 ⟨v3, rfl, o3, b3⟩
      obtain ⟨W, hW, d1, d2, nW, oW, sW⟩ := HR.out w3 v3 b3 o3
      obtain ⟨x1, x2, x3, hx⟩ : ∃ a n k, v3 = .slice a n k := by
        obtain ⟨c1, c2, c3, _⟩ := o3.is.shape
        exact ⟨c1, _, c2, c3⟩
      subst hx
      have NW := hide nW
      have OW := hide oW
      have SW := hide sW
      clear nW oW sW b3 o3
      go_wp2
      go_ret
      exact ⟨rfl, by rw [HF.out]; rw [hs] at NW; exact ⟨_, ⟨_, NW.out, rfl⟩, OW.out, SW.out⟩⟩
    · have e1 : Tx.undE s n = 2 := by unfold Tx.undE; rw [if_neg (by rw [hs]; decide), if_neg hn]
      have e2 : Tx.und s n = s := by unfold Tx.und; rw [if_neg (by rw [e1]; decide)]
      rw [e1, e2]
      clear e1 e2 hF hlv hv
      by_cases hn0 : n < 0
      · clear hn
        go_enter Try.func32, Try.ntmps32
        go_wp2_with fail
        refine HA.out.mono ?_
        rintro E w2 ⟨rfl, rfl⟩
        go_wp2
        go_ret
        exact ⟨rfl, NxS.refl HX.out (Below.refl _ _)⟩
      · have hn1 : (s.l.length : Int) < n := by omega
        clear hn
        go_enter Try.func32, Try.ntmps32
        go_wp2_with fail
        refine HA.out.mono ?_
        rintro E w2 ⟨rfl, rfl⟩
        go_wp2
        go_ret
        exact ⟨rfl, NxS.refl HX.out (Below.refl _ _)⟩

set_option maxRecDepth 20000 in
set_option maxHeartbeats 1000000 in
theorem ndone_any (p : Nat) (F : Nat → Prop) (w : World) (s : Tx.St) (h : Nxt p F w s) :
    Calls Try.prog 33 #[.pointer (some ⟨p, 0, none⟩)] w fun E w' => ∃ v', E = .returned (.tuple #[v', .int .i64 (Tx.donE s)]) ∧ OwnO 36 w.heap.size w' v' (Tx.donL s) ∧ NxS p F w w' (Tx.don s) := by
  have HA := hide (nasked_any p F w s h)
  have HX := hide h
  cases hs : s.ov with
  | true =>
    have e1 : Tx.donE s = 6 := by unfold Tx.donE; rw [if_pos hs]
    have e2 : Tx.don s = s := by unfold Tx.don; rw [if_neg (by rw [e1]; decide)]
    have e3 : Tx.donL s = [] := by unfold Tx.donL; rw [if_neg (by rw [e1]; decide)]
    rw [Tx.ask_ov hs] at HA
    rw [e1, e2, e3]
    clear h e1 e2 e3
    go_enter Try.func33, Try.ntmps33
    go_wp2_with fail
    refine HA.out.mono ?_
    rintro E w2 ⟨rfl, rfl⟩
    go_wp2
    go_ret2
    exact ⟨_, rfl, OwnO.nil _ _ _, NxS.refl HX.out (Below.refl _ _)⟩
  | false =>
    rw [Tx.ask_on hs] at HA
    obtain ⟨v, hv, hF⟩ := h
    obtain ⟨la, lk, hlv, _, _⟩ := hv.row.is.shape
    have c1 : w.cell? ⟨p, 1, none⟩ = some (.slice la s.l.length lk) := by rw [← hlv]; exact blk_cell hv.blk 1 rfl
    by_cases hn : s.l.length = 0
    · have e1 : Tx.donE s = 2 := by unfold Tx.donE; rw [if_neg (by rw [hs]; decide), if_pos hn]
      have e2 : Tx.don s = s := by unfold Tx.don; rw [if_neg (by rw [e1]; decide)]
      have e3 : Tx.donL s = [] := by unfold Tx.donL; rw [if_neg (by rw [e1]; decide)]
      rw [e1, e2, e3]
      rw [hn] at c1
      clear e1 e2 e3 hn hF hlv hv
      go_enter Try.func33, Try.ntmps33
      go_wp2_with fail
      refine HA.out.mono ?_
      rintro E w2 ⟨rfl, rfl⟩
      go_wp2
      go_ret2
      exact ⟨_, rfl, OwnO.nil _ _ _, NxS.refl HX.out (Below.refl _ _)⟩
    · have e1 : Tx.donE s = 0 := by unfold Tx.donE; rw [if_neg (by rw [hs]; decide), if_neg hn]
      have e2 : Tx.don s = Tx.drp s := by unfold Tx.don; rw [if_pos e1]; rfl
      have e3 : Tx.donL s = s.l := by unfold Tx.donL; rw [if_pos e1]
      rw [e1, e2, e3]
      have h8 := hv.ok.1
      obtain ⟨W, hW, c2, f2, nW, oW⟩ := n_over hv
      have d1 : W.cell? ⟨p, 1, none⟩ = some (.slice la s.l.length lk) := by rw [← hlv]; exact blk_cell nW.blk 1 rfl
      have HO := hide (nown_any v s.l W nW.row.is (by omega))
      rw [hlv] at HO
      have NW := hide nW
      have OW := hide oW
      have HF := hide hF
      have hn0 : ((s.l.length : Int) == 0) = false := by rw [beq_eq_false_iff_ne]; omega
      have hn1 : (0 : Int) < s.l.length := by omega
      clear hv hF nW oW HX hlv e1 e2 e3 hn
      go_enter Try.func33, Try.ntmps33
      go_wp2_with fail
      refine HA.out.mono ?_
      rintro E w2 ⟨rfl, rfl⟩
      go_wp2_with fail
      refine HO.out.mono ?_
      rintro E w3 ⟨v3, rfl, o3, b3⟩
      have O3 := hide (o3.rebase (show w.heap.size ≤ W.heap.size from OW.out.size))
      have N3 := hide (NW.out.below b3)
      have X3 := hide (OW.out.trans (Out.of_below (F := fun _ => False) b3) fun g hg => hg.elim)
      obtain ⟨x1, x2, x3, hx⟩ : ∃ a n k, v3 = .slice a n k := by
        obtain ⟨c1, c2, c3, _⟩ := o3.is.shape
        exact ⟨c1, _, c2, c3⟩
      subst hx
      clear o3 b3
      go_wp2
      go_ret2
      exact ⟨_, rfl, O3.out, by rw [HF.out]; exact ⟨_, ⟨v, N3.out, rfl⟩, X3.out, fun g hg => .inl hg⟩⟩

end Go.Proofs.Ytofbnkeglhhnlaa

/- The program's txn: Undo, Drop. -/
namespace Go.Proofs.Ytofbnkeglhhnlaa
open Go.RowKit
open Bm (Ov)
set_option linter.unusedVariables false

theorem Try.zeroOp (wx : World) : (zeroValue 36).run Try.prog wx = .ok (.agg #[.bool false, .string ⟨#[]⟩, .string ⟨#[]⟩]) wx := by kernel_rfl

/-- The rear of a row is cleared, and the row is cut: of a row that is there. -/
theorem z_clear {w : World} {g cap n : Nat} {l : List Ov} (h : OwnO 36 0 w (.slice (some ⟨g, 0, none⟩) n cap) l) (hn : l.length = n) (k : Nat) (hk : k < n) :
    ∃ W, (∀ ty, (Builtin.clear_ #[31] ty #[.slice (some ⟨g, k * 3, none⟩) (n - k) (cap - k)]).run Try.prog w = .ok (.tuple #[]) W) ∧ OwnO 36 0 W (.slice (some ⟨g, 0, none⟩) k cap) (l.take k) ∧ w.grownBy W (some g) ∧ n ≤ cap := by
  have hrow := h
  unfold OwnO at hrow
  rw [hn] at hrow
  have own1 : w.ownsRow 0 36 3 (.slice (some ⟨g, 0, none⟩) k cap) k (ocells (l.take k)) := by
    rw [ocells_take]
    exact own_cut hrow k (by omega)
  obtain ⟨cur1, hg1, hs1, hnc⟩ : ∃ cur, w.heap[g]? = some (.cells cur 36 (0, 0)) ∧ cur.size = cap * 3 ∧ n ≤ cap := by
    rcases hrow.2 with ⟨h, _⟩ | ⟨g', cap', cur, h, _, hg, hnc, _, hs, _⟩
    · simp at h
    · simp only [Value.slice.injEq, Option.some.injEq, Addr.mk.injEq, and_true, true_and] at h
      obtain ⟨rfl, rfl⟩ := h
      exact ⟨cur, hg, hs, hnc⟩
  have hzl : (Builtin.zeroCells (Value.agg #[.bool false, .string ⟨#[]⟩, .string ⟨#[]⟩]).cells (n - k)).toList.length = (n - k) * 3 := by rw [zeroCells_len]; rfl
  refine ⟨w.setCells g (k * 3) (Builtin.zeroCells (Value.agg #[.bool false, .string ⟨#[]⟩, .string ⟨#[]⟩]).cells (n - k)).toList, fun ty => ?_, ?_, setCells_grown g _ (k * 3) w, hnc⟩
  · exact run_clear_rows w _ _ ty _ Try.underlying31 Try.zeroOp (zeroCells_one (n - k) (by decide)) g (k * 3) (cap - k) (by omega) (fun j hj => by rw [hzl] at hj; rw [blk_cell hg1 _ (Array.getElem?_eq_getElem (by omega : k * 3 + j < cur1.size))]; rfl) (fun j _ => blk_froz hg1 _)
  · unfold OwnO
    rw [List.length_take, hn, Nat.min_eq_left (by omega)]
    exact own_setCells own1 _ (Nat.le_refl _) _

/-- A txn's row is cut in place. -/
theorem z_cut {p g : Nat} {w W : World} {s : Tx.St} {v v2 : Value} {k : Nat} (hv : PzV p w s v) (hs : s.ov = false) (hg : w.grownBy W v.ownBlock) (hb2 : v2.ownBlock = v.ownBlock) (h2 : OwnO 36 0 W v2 (s.l.take k)) (hok : Tx.Ok ⟨s.l.take k, false⟩) :
    ∃ X, W.setCell ⟨p, 1, none⟩ v2 = X ∧ W.cell? ⟨p, 1, none⟩ = some v ∧ W.frozen? ⟨p, 1, none⟩ = false ∧ PzS p (NB p v) w X ⟨s.l.take k, false⟩ := by
  have B2 := (hg.block p (blk_lt hv.blk) (fun e => hv.ne e.symm)).trans hv.blk
  obtain ⟨X, hX, bX, gX, fX⟩ := put_c B2 1 v2
  have rX : OwnO 36 0 X v2 (s.l.take k) := row_agree h2 fun g hg => gX.block g (h2.block g hg).2 fun e => by
    simp at e
    rw [hb2] at hg
    exact hv.ne (e ▸ hg)
  refine ⟨X, hX, blk_cell B2 1 rfl, fX, NB p v2, ⟨v2, ⟨by rw [bX, Tx.stn_on hs]; rfl, rX, hok⟩, rfl⟩, ?_, ?_⟩
  · exact (Out.of_grown (F := NB p v) hg fun g hg => .inr hg).trans (Out.of_grown (F := NB p v) gX fun g hg => .inl (by simpa using hg.symm)) fun g hg => .inl hg
  · rintro g (e | e)
    · exact .inl (.inl e)
    · exact .inl (.inr (hb2 ▸ e))

set_option maxRecDepth 20000 in
set_option maxHeartbeats 1000000 in
theorem zundo_any (p : Nat) (F : Nat → Prop) (w : World) (s : Tx.St) (n : Int) (h : Pz p F w s) : Calls Try.prog 12 #[.pointer (some ⟨p, 0, none⟩), .int .i64 n] w fun E w' => E = .returned (.int .i64 (Tx.undE s n)) ∧ PzS p F w w' (Tx.und s n) := by
  have HA := hide (zask_any p F w s h)
  have HX := hide h
  cases hs : s.ov with
  | true =>
    have e1 : Tx.undE s n = 6 := by unfold Tx.undE; rw [if_pos hs]
    have e2 : Tx.und s n = s := by unfold Tx.und; rw [if_neg (by rw [e1]; decide)]
    rw [Tx.ask_ov hs] at HA
    rw [e1, e2]
    clear h e1 e2
    go_enter Try.func12, Try.ntmps12
    go_wp2_with fail
    refine HA.out.mono ?_
    rintro E w2 ⟨rfl, rfl⟩
    go_wp2
    go_ret
    exact ⟨rfl, PzS.refl HX.out (Below.refl _ _)⟩
  | false =>
    rw [Tx.ask_on hs] at HA
    obtain ⟨v, hv, hF⟩ := h
    have hrow := hv.row
    rw [Tx.cur_on hs] at hrow
    obtain ⟨la, lk, hlv, hlc, hlm⟩ := hrow.is.shape
    have c1 : w.cell? ⟨p, 1, none⟩ = some (.slice la s.l.length lk) := by rw [← hlv]; exact blk_cell hv.blk 1 rfl
    by_cases hn : 0 ≤ n ∧ n ≤ (s.l.length : Int)
    · have e1 : Tx.undE s n = 0 := by unfold Tx.undE; rw [if_neg (by rw [hs]; decide), if_pos hn]
      have e2 : Tx.und s n = ⟨s.l.take n.toNat, false⟩ := by unfold Tx.und; rw [if_pos e1]
      have hok := Tx.ok_und hv.ok n
      rw [e2] at hok
      rw [e1, e2]
      obtain ⟨k, hk⟩ : ∃ k : Nat, n = (k : Int) := ⟨n.toNat, by omega⟩
      subst hk
      have hkl : k ≤ s.l.length := by omega
      have h8 := hv.ok.1
      rw [Int.toNat_natCast] at hok ⊢
      have k0 : ¬ (k : Int) < 0 := by omega
      have k1 : ¬ (s.l.length : Int) < k := by omega
      have k2 : (k : Int) ≤ s.l.length := by omega
      have k3 : (0 : Int) ≤ (k : Int) := by omega
      have k4 : (k : Int) ≤ lk := by omega
      have k5 : (s.l.length : Int) ≤ lk := by omega
      subst hlv
      by_cases hkn : k < s.l.length
      · rcases hrow.2 with ⟨hx, hy⟩ | ⟨g, cap, cur, hx, _⟩
        · omega
        simp only [Value.slice.injEq, true_and] at hx
        obtain ⟨rfl, rfl⟩ := hx
        obtain ⟨W, hcl, hO, hG, hnc⟩ := z_clear hrow rfl k hkn
        obtain ⟨X, hX, d1, d2, hP⟩ := z_cut (g := g) (v2 := .slice (some ⟨g, 0, none⟩) k lk) hv hs hG rfl hO hok
        have HP := hide hP
        have HF := hide hF
        have hmc : ¬ lk = k := by omega
        clear e1 e2 hn hF hv hok hrow hO hG hP HX
        go_enter Try.func12, Try.ntmps12
        go_wp2_with fail
        refine HA.out.mono ?_
        rintro E w2 ⟨rfl, rfl⟩
        go_wp2
        go_ret
        exact ⟨rfl, by rw [HF.out]; exact HP.out⟩
      · obtain rfl : k = s.l.length := by omega
        rw [List.take_length] at hok ⊢
        obtain ⟨X, hX, d1, d2, hP⟩ := z_cut (g := 0) (k := s.l.length) hv hs (World.grownBy.refl _ _) rfl (by rw [List.take_length]; exact hrow) (by rw [List.take_length]; exact hok)
        rw [List.take_length] at hP
        have HP := hide hP
        have HF := hide hF
        have hcl : ∀ (a : Option Addr) (c : Nat) ty, (Builtin.clear_ #[31] ty #[.slice a 0 c]).run Try.prog w = .ok (.tuple #[]) w := fun a c ty => by
          cases a with
          | none => simp [Builtin.clear_, run_underlying Try.underlying31]
          | some a => simp [Builtin.clear_, run_underlying Try.underlying31]
        have hss : s.l.length - s.l.length = 0 := Nat.sub_self _
        clear e1 e2 hn hF hv hok hP HX
        cases la with
        | none =>
          have hlk : lk = 0 ∧ s.l.length = 0 := by
            rcases hrow.2 with ⟨hx, hy⟩ | ⟨g, cap, cur, hx, _⟩
            · simp at hx; exact ⟨hx.2, hy⟩
            · simp at hx
          obtain ⟨rfl, hlen⟩ := hlk
          clear hrow
          generalize s.l.length = n0 at *
          subst hlen
          go_enter Try.func12, Try.ntmps12
          go_wp2_with fail
          refine HA.out.mono ?_
          rintro E w2 ⟨rfl, rfl⟩
          go_wp2
          go_ret
          exact ⟨rfl, by rw [HF.out]; exact HP.out⟩
        | some ad =>
          clear hrow
          go_enter Try.func12, Try.ntmps12
          go_wp2_with fail
          refine HA.out.mono ?_
          rintro E w2 ⟨rfl, rfl⟩
          go_wp2
          all_goals
            go_ret
            exact ⟨rfl, by rw [HF.out]; exact HP.out⟩
    · have e1 : Tx.undE s n = 2 := by unfold Tx.undE; rw [if_neg (by rw [hs]; decide), if_neg hn]
      have e2 : Tx.und s n = s := by unfold Tx.und; rw [if_neg (by rw [e1]; decide)]
      rw [e1, e2]
      clear e1 e2 hF hlv hv hrow
      by_cases hn0 : n < 0
      · clear hn
        go_enter Try.func12, Try.ntmps12
        go_wp2_with fail
        refine HA.out.mono ?_
        rintro E w2 ⟨rfl, rfl⟩
        go_wp2
        go_ret
        exact ⟨rfl, PzS.refl HX.out (Below.refl _ _)⟩
      · have hn1 : (s.l.length : Int) < n := by omega
        clear hn
        go_enter Try.func12, Try.ntmps12
        go_wp2_with fail
        refine HA.out.mono ?_
        rintro E w2 ⟨rfl, rfl⟩
        go_wp2
        go_ret
        exact ⟨rfl, PzS.refl HX.out (Below.refl _ _)⟩

/-- What closing leaves, of a txn. -/
theorem ZOv.step {p : Nat} {w wc X : World} {s : Tx.St} {v : Value} (h : ZOv p wc s X) (hb : Below w.heap.size w wc) : PzS p (NB p v) w X (Tx.drp s) := by
  refine ⟨NB p (.slice none 0 0), ⟨_, h.1, rfl⟩, ?_, ?_⟩
  · exact (Out.of_below (F := NB p v) hb).trans (Out.of_grown (F := NB p v) h.2 fun g hg => .inl (by simpa using hg.symm)) fun g hg => .inl hg
  · rintro g (e | e)
    · exact .inl (.inl e)
    · simp [Value.ownBlock] at e

set_option maxHeartbeats 400000 in
theorem zdrop_any (p : Nat) (F : Nat → Prop) (w : World) (s : Tx.St) (h : Pz p F w s) : Calls Try.prog 16 #[.pointer (some ⟨p, 0, none⟩)] w fun E w' => E = .returned (.int .i64 (Tx.ask s)) ∧ PzS p F w w' (Tx.drpS s) := by
  have HA := hide (zask_any p F w s h)
  have HX := hide h
  cases hs : s.ov with
  | true =>
    rw [show Tx.drpS s = s from if_pos hs]
    rw [Tx.ask_ov hs] at HA ⊢
    clear h
    go_enter_defers Try.func16, Try.ntmps16
    go_wp2_with fail
    refine HA.out.mono ?_
    rintro E w2 ⟨rfl, rfl⟩
    go_wp2
    exact ⟨_, results_tmp rfl _ _ _, rfl, PzS.refl HX.out (Below.refl _ _)⟩
  | false =>
    rw [show Tx.drpS s = Tx.drp s from if_neg (by rw [hs]; decide)]
    rw [Tx.ask_on hs] at HA ⊢
    obtain ⟨v, hv, hF⟩ := h
    have HV := hide hv
    have HF := hide hF
    clear hv hF HX
    go_enter_defers Try.func16, Try.ntmps16
    go_wp2_with fail
    refine HA.out.mono ?_
    rintro E w2 ⟨rfl, rfl⟩
    go_wp2
    refine leaves_cons (f := 28) (args := #[.pointer (some ⟨p, 0, none⟩)]) (by simp) (by simp [go_sem]) ?_
    refine (zclose_d p w w s v HV.out (Below.refl _ _) .returning).mono ?_
    rintro e u' w'' ⟨rfl, rfl, hz⟩
    exact ⟨_, results_tmp rfl _ _ _, rfl, by rw [HF.out]; exact hz.step (Below.refl _ _)⟩

end Go.Proofs.Ytofbnkeglhhnlaa

/- slices.Clone of a list of ops. -/
namespace Go.Proofs.Ytofbnkeglhhnlaa
open Go.RowKit
set_option linter.unusedVariables false

set_option maxHeartbeats 400000 in
theorem cloneO_any (vl : Value) (l : List Bm.Ov) (w : World) (h : IsO w vl l) (hl : l.length * 40 ≤ 140737488351232) :
    Calls Try.prog 29 #[vl] w fun e w' => ∃ v, e = .returned v ∧ OwnO 36 w.heap.size w' v l ∧ Below w.heap.size w w' := by
  have q : ∀ (w : World) (a : Option Addr) (n c n' c' : Nat), (binOp .eql 31 (.slice a n c) (.slice none n' c')).run Try.prog w = .ok (.bool a.isNone) w := fun w a n c n' c' => Lib.run_eql_slice_nil w _ _ a n c n' c' Try.underlying31
  by_cases hn : vl = .slice none 0 0
  · subst hn
    have : l = [] := by
      rcases h with ⟨_, h⟩ | ⟨ad, cap, h, _⟩
      · exact h
      · simp at h
    subst this
    clear h hl
    go_enter Try.func29, Try.ntmps29
    go_wp2
    go_ret
    exact ⟨_, rfl, OwnO.nil _ _ _, Below.refl _ _⟩
  · obtain ⟨ad, cap, rfl⟩ : ∃ ad cap, vl = .slice (some ad) l.length cap := by
      rcases h with ⟨h, _⟩ | ⟨ad, cap, h, _⟩
      · exact absurd h hn
      · exact ⟨ad, cap, h⟩
    clear hn
    obtain ⟨w1, hw1, sz1, bel1, own1⟩ := ops_step 36 w #[] 0 [] rfl rfl (by simp [maxLen])
    have h1 := h.below bel1
    go_enter Try.func29, Try.ntmps29
    go_wp2_with (at_builtin; refine wpList_append_ops rfl (.tmp 5) (.tmp 6) 31 rfl 36 w.heap.size Try.underlying31 Try.info36 _ [] rfl own1 _ l rfl h1 (by simp; omega) (by omega) ?_)
    intro v2 w2 own2 bel2 _
    go_wp2
    go_ret
    exact ⟨_, rfl, by simpa using own2, bel1.trans bel2⟩

end Go.Proofs.Ytofbnkeglhhnlaa

/- The program's txn: Done. -/
namespace Go.Proofs.Ytofbnkeglhhnlaa
open Go.RowKit
open Bm (Ov)
set_option linter.unusedVariables false

theorem Tx.fits {s : Tx.St} (h : Tx.Ok s) : FitO s.l := fun o ho => by
  have := Om.chk_ok' (h.2 o ho)
  have h1 : o.k.size = o.kl.length := by simp [Ov.kl]
  have h2 : o.v.size = o.vl.length := by simp [Ov.vl]
  rw [h1, h2]
  omega

theorem Tx.chkL_ok {s : Tx.St} (h : Tx.Ok s) (hn : ¬ s.l.length = 0) : Bm.chkL s.l = 0 := by
  rw [Bm.chkL_mid hn (by have := h.1; omega)]
  exact Bm.first_all h.2

set_option maxRecDepth 20000 in
set_option maxHeartbeats 1000000 in
theorem zdone_any (p : Nat) (F : Nat → Prop) (w : World) (s : Tx.St) (h : Pz p F w s) : Calls Try.prog 14 #[.pointer (some ⟨p, 0, none⟩)] w fun E w' => ∃ v', E = .returned (.tuple #[v', .int .i64 (Tx.donE s)]) ∧ OwnO 36 w.heap.size w' v' (Tx.donL s) ∧ ∃ F', Pz p F' w' (Tx.don s) ∧ Out F w w' ∧ ∀ g, F' g → F g := by
  have HA := hide (zask_any p F w s h)
  have HX := hide h
  cases hs : s.ov with
  | true =>
    have e1 : Tx.donE s = 6 := by unfold Tx.donE; rw [if_pos hs]
    have e2 : Tx.don s = s := by unfold Tx.don; rw [if_neg (by rw [e1]; decide)]
    have e3 : Tx.donL s = [] := by unfold Tx.donL; rw [if_neg (by rw [e1]; decide)]
    rw [Tx.ask_ov hs] at HA
    rw [e1, e2, e3]
    clear h e1 e2 e3
    go_enter_defers Try.func14, Try.ntmps14
    go_wp2_with fail
    refine HA.out.mono ?_
    rintro E w2 ⟨rfl, rfl⟩
    go_wp2
    exact ⟨_, results_tmp2 rfl _ _ _, _, rfl, OwnO.nil _ _ _, F, HX.out, Out.of_below (Below.refl _ _), fun g hg => hg⟩
  | false =>
    rw [Tx.ask_on hs] at HA
    obtain ⟨v, hv, hF⟩ := h
    have hrow := hv.row
    rw [Tx.cur_on hs] at hrow
    obtain ⟨la, lk, hlv, hlc, hlm⟩ := hrow.is.shape
    have c1 : w.cell? ⟨p, 1, none⟩ = some (.slice la s.l.length lk) := by rw [← hlv]; exact blk_cell hv.blk 1 rfl
    have h8 := hv.ok.1
    have HC := hide (bcheck_any v s.l w hrow.is (Tx.fits hv.ok) (by omega))
    rw [hlv] at HC
    by_cases hn : s.l.length = 0
    · have e1 : Tx.donE s = 2 := by unfold Tx.donE; rw [if_neg (by rw [hs]; decide), if_pos hn]
      have e2 : Tx.don s = s := by unfold Tx.don; rw [if_neg (by rw [e1]; decide)]
      have e3 : Tx.donL s = [] := by unfold Tx.donL; rw [if_neg (by rw [e1]; decide)]
      rw [show Bm.chkL s.l = 2 by rw [List.eq_nil_of_length_eq_zero hn]; rfl] at HC
      rw [e1, e2, e3]
      clear e1 e2 e3 hn hF hlv hv hrow
      go_enter_defers Try.func14, Try.ntmps14
      go_wp2_with fail
      refine HA.out.mono ?_
      rintro E w2 ⟨rfl, rfl⟩
      go_wp2_with fail
      refine HC.out.mono ?_
      rintro E w2 ⟨rfl, b2⟩
      have B2 := hide b2
      clear b2
      go_wp2
      exact ⟨_, results_tmp2 rfl _ _ _, _, rfl, OwnO.nil _ _ _, F, HX.out.below B2.out, Out.of_below B2.out, fun g hg => hg⟩
    · have e1 : Tx.donE s = 0 := by unfold Tx.donE; rw [if_neg (by rw [hs]; decide), if_neg hn]
      have e2 : Tx.don s = Tx.drp s := by unfold Tx.don; rw [if_pos e1]; rfl
      have e3 : Tx.donL s = s.l := by unfold Tx.donL; rw [if_pos e1]
      rw [Tx.chkL_ok hv.ok hn] at HC
      rw [e1, e2, e3]
      have HV := hide hv
      have HF := hide hF
      have HR := hide hrow
      have HLV := hide hlv
      have HK : Hid (∀ W, Below w.heap.size w W → W.cell? ⟨p, 1, none⟩ = some (.slice la s.l.length lk) ∧ Calls Try.prog 29 #[.slice la s.l.length lk] W fun e w' => ∃ v, e = .returned v ∧ OwnO 36 W.heap.size w' v s.l ∧ Below W.heap.size W w') := hide fun W hW => by
        refine ⟨?_, ?_⟩
        · rw [← HLV.out]; exact blk_cell (HV.out.below hW).blk 1 rfl
        · rw [← HLV.out]; exact cloneO_any v s.l W (HR.out.below hW).is (by omega)
      clear e1 e2 e3 hF hv hrow HX hlv hn
      go_enter_defers Try.func14, Try.ntmps14
      go_wp2_with fail
      refine HA.out.mono ?_
      rintro E w2 ⟨rfl, rfl⟩
      go_wp2_with fail
      refine HC.out.mono ?_
      rintro E w2 ⟨rfl, b2⟩
      obtain ⟨d1, HK2⟩ := HK.out w2 b2
      have HK3 := hide HK2
      have B2 := hide b2
      clear b2 HK2 c1
      go_wp2_with fail
      refine HK3.out.mono ?_
      rintro E w3 ⟨v3, rfl, o3, b3⟩
      have B3 := hide (B2.out.trans (b3.mono B2.out.size))
      have O3 := hide (o3.rebase B2.out.size)
      obtain ⟨x1, x2, x3, hx⟩ : ∃ a n k, v3 = .slice a n k := by
        obtain ⟨c1, c2, c3, _⟩ := o3.is.shape
        exact ⟨c1, _, c2, c3⟩
      subst hx
      clear o3 b3
      go_wp2
      refine leaves_cons (f := 28) (args := #[.pointer (some ⟨p, 0, none⟩)]) (by simp) (by simp [go_sem]) ?_
      refine (zclose_d p w w3 s v HV.out B3.out .returning).mono ?_
      rintro e u' w'' ⟨rfl, rfl, hz⟩
      refine ⟨_, results_tmp2 rfl _ _ _, _, rfl, ?_, _, ⟨_, hz.1, rfl⟩, ?_, ?_⟩
      · refine row_agree O3.out fun g hg => hz.2.block g (O3.out.block g hg).2 fun e => ?_
        have m1 := (O3.out.block g hg).1
        have m2 := blk_lt HV.out.blk
        simp at e
        omega
      · rw [HF.out]
        exact (Out.of_below (F := NB p v) B3.out).trans (Out.of_grown (F := NB p v) hz.2 fun g hg => .inl (by simpa using hg.symm)) fun g hg => .inl hg
      · rw [HF.out]
        rintro g (e | e)
        · exact .inl e
        · simp [Value.ownBlock] at e

/-- What Done told is none of the txn's blocks, before and behind. -/
theorem zdone_apart {p : Nat} {F F' : Nat → Prop} {w w' : World} {s : Tx.St} {v' : Value} {l : List Ov} (h : Pz p F w s) (ho : OwnO 36 w.heap.size w' v' l) (hs : ∀ g, F' g → F g) : ∀ g, v'.ownBlock = some g → ¬ F' g := fun g hg e => by
  have m1 := (ho.block g hg).1
  have m2 := h.lt g (hs g e)
  omega

end Go.Proofs.Ytofbnkeglhhnlaa
