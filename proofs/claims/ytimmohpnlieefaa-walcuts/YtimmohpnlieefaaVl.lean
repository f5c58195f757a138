/- The program's log is cut: the method; wal.trim. -/
import Derived.Test.YtimmohpnlieefaaVk
import Derived.Test.YtimmohpnlieefaaPi
import Derived.Test.YtimmohpnlieefaaPg
import Derived.Test.YtimmohpnlieefaaDn
namespace Go.Proofs.Ytimmohpnlieefaa
open Go.RowKit
set_option linter.unusedVariables false

theorem Try.enters82 : ∀ args w, (callFunc 82 args).run Try.prog w = .ok (.enter 82 args) w := enters_of Try.func82 (by kernel_rfl) rfl

set_option maxRecDepth 20000 in
set_option maxHeartbeats 4000000 in
theorem ltrim_any (base b o : Nat) (t : TypeId) (cs : Array Value) (w : World) (l : List Cm.Cv) (vc ve : Value) (rs : List Cw) (k : Nat)
    (hB : w.heap[b]? = some (.cells cs t (0, 0))) (ho : cs[o]? = some vc) (ho1 : cs[o + 1]? = some ve) (h1 : t ≠ 32) (h2 : t ≠ 3) (h3 : t ≠ 87) (h : Lw base w l vc ve rs) (hk : k ≤ l.length) :
    Calls Try.prog 51 #[.pointer (some ⟨b, o, none⟩), .int .i64 k] w fun E w' => E = .returned (.tuple #[]) ∧
      ∃ vc' ve', w'.heap[b]? = some (.cells ((cs.setIfInBounds o vc').setIfInBounds (o + 1) ve') t (0, 0)) ∧ Lw base w' (l.take k) vc' ve' (rs.take k) ∧ (∀ g, LB vc' ve' (rs.take k) g → LB vc ve rs g) ∧ Out (fun g => g = b ∨ LB vc ve rs g) w w' := by
  have hll := good_len h.good
  have hlen := h.len
  have Ld := h.below ((Below.refl w.heap.size w).drew)
  have HE : Hid (Calls Try.prog 49 #[.pointer (some ⟨b, o, none⟩)] w.drew fun E w' => ∃ v, E = .returned v ∧ (v = .int .i64 rs.length ∧ w.drew = w')) := hide ((lend_any b o w.drew vc rs (blk_cell hB o ho) Ld.r.row.row).mono fun E w' h => ⟨_, h.1, rfl, h.2⟩)
  have HD : Hid (Calls Try.prog 82 #[vc, .int .i64 k, .int .i64 rs.length] w.drew fun E w1 => ∃ v', E = .returned v' ∧ ((w1.cell? ⟨b, o, none⟩ = some vc ∧ w1.frozen? ⟨b, o, none⟩ = false) ∧ (∃ a n c, v' = .slice a n c) ∧ ∃ U1, w1.setCell ⟨b, o, none⟩ v' = U1 ∧ U1.cell? ⟨b, o + 1, none⟩ = some ve ∧ U1.frozen? ⟨b, o + 1, none⟩ = false ∧ ∃ a2 n2 c2 U2, U1.setCell ⟨b, o + 1, none⟩ (.slice a2 n2 c2) = U2 ∧ (∀ wx, (Instr.slice 46 ve none (some (.int .i64 k)) none).run Try.prog wx = .ok (.slice a2 n2 c2) wx) ∧
      (U2.heap[b]? = some (.cells ((cs.setIfInBounds o v').setIfInBounds (o + 1) (.slice a2 n2 c2)) t (0, 0)) ∧ Lw base U2 (l.take k) v' (.slice a2 n2 c2) (rs.take k) ∧ (∀ g, LB v' (.slice a2 n2 c2) (rs.take k) g → LB vc ve rs g) ∧ Out (fun g => g = b ∨ LB vc ve rs g) w U2))) := hide (by
    refine (delC_any w.drew base vc rs k Ld.r.row (by omega) (by omega)).mono ?_
    rintro E w1 ⟨v', rfl, hr, hout, hob⟩
    obtain ⟨hB1, vs, hvs, key⟩ := Ld.cut (o := o) k hk (w' := w1) hB h1 h2 h3 hr hout hob
    obtain ⟨a, c, hv', _⟩ := hr.row.shape
    have hBU : (w1.setCell ⟨b, o, none⟩ v').heap[b]? = some (.cells (cs.setIfInBounds o v') t (0, 0)) := by rw [set_cells hB1]
    have ho1' : (cs.setIfInBounds o v')[o + 1]? = some ve := by rw [cells_other _ _ _ _ (by omega)]; exact ho1
    obtain ⟨a2, n2, c2, hvs2⟩ : ∃ a n c, vs = .slice a n c := by
      obtain ⟨xa, xc, hve, _, _⟩ := h.r.en.is.shape
      have := hvs w
      rw [hve, run_slice_h w 46 xa (ends l).length xc Try.elemI .i64 _ (by omega) (by rw [ends_len] at *; omega), Try.sizeI] at this
      simp [Result.andThen, sliced] at this
      exact ⟨_, _, _, this.symm⟩
    subst hvs2
    have oU : Out (fun g => g = b) w1 ((w1.setCell ⟨b, o, none⟩ v').setCell ⟨b, o + 1, none⟩ (.slice a2 n2 c2)) := Out.of_grown (grown_trans (grown_setCell w1 ⟨b, o, none⟩ v') (grown_setCell _ ⟨b, o + 1, none⟩ _)) fun g hg => by simp at hg; exact hg.symm
    obtain ⟨k1, k2, k3⟩ := key _ (by rw [set_cells hBU]) oU
    refine ⟨v', rfl, ⟨blk_cell hB1 o ho, blk_froz hB1 o⟩, ⟨a, _, c, hv'⟩, _, rfl, blk_cell hBU (o + 1) ho1', blk_froz hBU (o + 1), a2, n2, c2, _, rfl, hvs, ?_, k1, k2, (Out.of_below (F := fun g => g = b ∨ LB vc ve rs g) ((Below.refl w.heap.size w).drew)).trans k3 fun g hg => .inl hg⟩
    rw [set_cells hBU])
  have c0 := blk_cell hB o ho
  obtain ⟨ca, cc, hvc, _, _⟩ := h.r.row.row.shape
  obtain ⟨ea, ec, hve, _, _⟩ := h.r.en.is.shape
  subst hvc hve
  clear hB ho ho1 h1 h2 h3 h hk hll hlen Ld
  go_enter Try.func51, Try.ntmps51
  go_wp2_with fail
  go_region_law (first
    | (refine call_at rfl 49 #[.tmp 10] #[105] rfl Try.enters49 #[.pointer (some ⟨b, o, none⟩)] (by first | (simp [Act.eval]; done) | (simp [Act.eval, Act.put]; done)) HE.out ?_; rintro _ _ ⟨rfl, rfl⟩)
    | (refine call_at rfl 82 #[.tmp 8, .tmp 9, .tmp 11] #[34, 3, 3] rfl Try.enters82 #[.slice ca rs.length cc, .int .i64 k, .int .i64 rs.length] (by first | (simp [Act.eval]; done) | (simp [Act.eval, Act.put]; done)) HD.out ?_; rintro v7 w7 ⟨⟨d7, g7⟩, ⟨a7, n7, k7, rfl⟩, U1, hU1, d8, g8, a2, n2, c2, U2, hU2, hsl, J⟩; have J := hide J))
  all_goals
    go_wp2
    go_end0
    exact ⟨rfl, _, _, J.out⟩

set_option maxHeartbeats 1000000 in
theorem wtrim_any (q : Nat) (F : Nat → Prop) (w : World) (st : Dm.Ds) (len : Int) (h : Pk q F w st) (hs : Big 100000000 800000 st) :
    Calls Try.prog 40 #[.pointer (some ⟨q, 0, none⟩), .int .i64 len] w fun E w' => E = .returned (.int .i64 (if (Dm.cutD st 0 len).1 ≠ 0 then (Dm.cutD st 0 len).1 else (Dm.sync (Dm.cutD st 0 len).2).1)) ∧ PStep q F w w' (if (Dm.cutD st 0 len).1 ≠ 0 then (Dm.cutD st 0 len).2 else (Dm.sync (Dm.cutD st 0 len).2).2) := by
  have HC := hide (cut_any q F w st 0 len h (fun f => Nat.le_trans (hs.1.1 f) (by decide)) (Nat.le_trans hs.1.2.1 (by decide)) hs.2 (Nat.lt_of_le_of_lt hs.1.2.2 (by decide)))
  have hs2 := big_cut hs 0 len
  have HS : Hid (∀ W G, Pk q G W (Dm.cutD st 0 len).2 → Calls Try.prog 63 #[.pointer (some ⟨q, 0, none⟩)] W fun E w' => E = .returned (.int .i64 (Dm.sync (Dm.cutD st 0 len).2).1) ∧ PStep q G W w' (Dm.sync (Dm.cutD st 0 len).2).2) := hide fun W G hk => sync_any q G W _ hk (fun f => Nat.le_trans (hs2.1.1 f) (by decide)) (Nat.le_trans hs2.1.2.1 (by decide)) hs2.2 (Nat.lt_of_le_of_lt hs2.1.2.2 (by decide))
  generalize Dm.cutD st 0 len = x at *
  obtain ⟨e, st2⟩ := x
  simp only at *
  generalize Dm.sync st2 = y at *
  obtain ⟨f, st3⟩ := y
  simp only at *
  clear h hs hs2
  by_cases he : e = 0
  · subst he
    simp only [ne_eq, not_true, if_false]
    go_enter Try.func40, Try.ntmps40
    go_wp2_with fail
    refine HC.out.mono ?_
    rintro E w1 ⟨rfl, F1, k1, k2, k3⟩
    have HS1 := hide (HS.out w1 F1 k1)
    have K2 := hide k2
    have K3 := hide k3
    clear k1 k2 k3 HC HS
    go_wp2_with fail
    refine HS1.out.mono ?_
    rintro E w2 ⟨rfl, J⟩
    have J := hide (PStep.trans K2.out K3.out J)
    go_wp2
    go_ret
    exact ⟨rfl, J.out⟩
  · simp only [ne_eq, he, not_false_eq_true, if_true]
    have hne : (e != 0) = true := by simp [he]
    go_enter Try.func40, Try.ntmps40
    go_wp2_with fail
    refine HC.out.mono ?_
    rintro E w1 ⟨rfl, J⟩
    have J := hide J
    clear HC HS
    go_wp2
    go_ret
    exact ⟨rfl, J.out⟩

end Go.Proofs.Ytimmohpnlieefaa
