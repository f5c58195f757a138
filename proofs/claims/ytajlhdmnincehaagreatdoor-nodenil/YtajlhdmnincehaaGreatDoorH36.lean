/- Texts of one layer, one behind the other. -/
import Derived.Test.YtajlhdmnincehaaGreatDoorH20
import Derived.Test.YtajlhdmnincehaaGreatDoorH30
import Derived.Deep.RegionWith
/- The program's node (layer 23): Read. -/
namespace Go.Proofs.YtajlhdmnincehaaGreatDoor
open Go.RowKit
set_option linter.unusedVariables false

set_option maxHeartbeats 2000000 in
theorem nread1_any (n p q A : Nat) (F : Nat → Prop) (W : World) (x : Ns) (h : Nd n p q F W x) (hR : Rok x.s) (hr : Rol.rdE x.s.p = 0) (k : ByteArray) (hk : k.size ≤ 140737488355328) (q0 : W.heap[A]? = some (.cells #[.pointer (some ⟨n, 0, none⟩)] 31 (0, 0))) (q1 : W.heap[A + 1]? = some (.cells #[.string k] 9 (0, 0))) (q2 : W.heap[A + 1 + 1]? = some (.cells #[.string ⟨#[]⟩] 9 (0, 0))) (q3 : W.heap[A + 1 + 1 + 1]? = some (.cells #[.bool false] 4 (0, 0))) :
    Calls Tryz.prog 24 #[.pointer (some ⟨A, 0, none⟩), .pointer (some ⟨A + 1, 0, none⟩), .pointer (some ⟨A + 1 + 1, 0, none⟩), .pointer (some ⟨A + 1 + 1 + 1, 0, none⟩)] W fun E w' => E = .returned (.int .i64 0) ∧ w'.heap[A + 1 + 1]? = some (.cells #[.string (gv (Sto.fold (Rst.sto x.s)) k)] 9 (0, 0)) ∧ w'.heap[A + 1 + 1 + 1]? = some (.cells #[.bool (gp (Sto.fold (Rst.sto x.s)) k)] 4 (0, 0)) ∧ Out (fun g => g = A + 1 + 1 ∨ g = A + 1 + 1 + 1) W w' := by
  have PG := hide (qpage_any p q F W x.s h.st hR)
  obtain ⟨y, hy⟩ : ∃ y, x.s.p = y := ⟨_, rfl⟩
  have hfy : FitP y := by rw [← hy]; exact h.st.fit
  rw [hy] at PG hr
  have HV : vp y = .agg #[.int .i64 y.e, .int .u8 y.r, .int .i64 y.a, .int .u8 y.p, .int .i64 y.f, .int .i64 y.b] := rfl
  have RD : Hid (∀ W', Mst W' → Calls Tryz.prog 25 #[vp y] W' fun E w' => E = .returned (.int .i64 0) ∧ Below W'.heap.size W' w') := hide fun W' hm => by
    have := preads_any y W' hfy hm
    rw [hr] at this
    exact this
  rw [HV] at PG RD
  generalize ht : Sto.fold (Rst.sto x.s) = T at *
  have GE : Hid (∀ W', Below W.heap.size W W' → Calls Tryz.prog 27 #[.pointer (some ⟨p, 0, none⟩), .string k] W' fun E w' => E = .returned (.tuple #[.string (gv T k), .bool (gp T k)]) ∧ Below W.heap.size W w') := hide fun W' hW => by
    refine (qget_any p q F W' x.s (h.below hW).st hR k hk).mono ?_
    rw [ht]
    rintro E w' ⟨rfl, b⟩
    exact ⟨rfl, hW.trans (b.mono hW.size)⟩
  have CE : Hid (∀ W', Below W.heap.size W W' → W'.cell? ⟨A, 0, none⟩ = some (.pointer (some ⟨n, 0, none⟩)) ∧ W'.cell? ⟨n, 3, none⟩ = some (.pointer (some ⟨p, 0, none⟩)) ∧ W'.cell? ⟨A + 1, 0, none⟩ = some (.string k) ∧ Mst W' ∧ W'.heap[A + 1 + 1]? = some (.cells #[.string ⟨#[]⟩] 9 (0, 0)) ∧ W'.heap[A + 1 + 1 + 1]? = some (.cells #[.bool false] 4 (0, 0))) := hide fun W' hW => ⟨blk_cell ((hW.block _ (blk_lt q0)).trans q0) 0 rfl, (h.below hW).cs.c3, blk_cell ((hW.block _ (blk_lt q1)).trans q1) 0 rfl, (h.below hW).st.mst, (hW.block _ (blk_lt q2)).trans q2, (hW.block _ (blk_lt q3)).trans q3⟩
  obtain ⟨e0, e3, e1, _, _, _⟩ := CE.out W (Below.refl _ _)
  generalize gv T k = gvv at *
  generalize gp T k = gpp at *
  clear h hR hr hk q0 q1 q2 q3 hy hfy HV ht
  go_enter Tryz.func24, Tryz.ntmps24
  go_wp2_with fail
  refine PG.out.mono ?_
  rintro E w1 ⟨rfl, b1⟩
  have R1 := hide (RD.out w1 (CE.out w1 b1).2.2.2.1)
  have B1 := hide b1
  clear PG RD b1 e0 e1 e3
  go_wp2_with fail
  refine R1.out.mono ?_
  rintro E w2 ⟨rfl, b2⟩
  have B2 := hide (B1.out.trans (b2.mono B1.out.size))
  obtain ⟨e0, e3, e1, _, _, _⟩ := CE.out w2 B2.out
  have G2 := hide (GE.out w2.drew B2.out.drew)
  clear R1 B1 b2 GE
  go_wp2_with fail
  go_region_with (go_at_call 27; refine G2.out.mono ?_; rintro E w3 ⟨rfl, b3⟩; obtain ⟨_, _, _, _, q2, q3⟩ := CE.out w3 b3; obtain ⟨V, hV, bV, gV, fV⟩ := put_c q2 0 (.string gvv); have q3' := (gV.block _ (blk_lt q3) (by simp)).trans q3; obtain ⟨V2, hV2, bV2, gV2, fV2⟩ := put_c q3' 0 (.bool gpp); have d2 : w3.cell? ⟨A + 1 + 1, 0, none⟩ = some (.string ⟨#[]⟩) := blk_cell q2 0 rfl; have d3 : V.cell? ⟨A + 1 + 1 + 1, 0, none⟩ = some (.bool false) := blk_cell q3' 0 rfl; have B3 := hide b3; have RR := hide (And.intro ((gV2.block _ (blk_lt bV) (by simp)).trans bV) (And.intro bV2 (And.intro gV gV2))); clear q2 q3 q3' bV gV bV2 gV2 b3)
  all_goals
    go_wp2
    go_ret
    obtain ⟨r1, r2, r3, r4⟩ := RR.out
    exact ⟨rfl, r1, r2, ((Out.of_below B3.out (F := fun g => g = A + 1 + 1 ∨ g = A + 1 + 1 + 1)).trans (Out.of_grown (F := fun g => g = A + 1 + 1 ∨ g = A + 1 + 1 + 1) r3 fun g e => .inl (Option.some.inj e).symm) fun g e => .inl e).trans (Out.of_grown (F := fun g => g = A + 1 + 1 ∨ g = A + 1 + 1 + 1) r4 fun g e => .inr (Option.some.inj e).symm) fun g e => .inl e⟩

set_option maxHeartbeats 2000000 in
theorem nRead_any (n p q : Nat) (F : Nat → Prop) (w : World) (x : Ns) (h : Nd n p q F w x) (hR : Rok x.s) (hon : x.s.d.on = true) (hr : Rol.rdE x.s.p = 0) (k : ByteArray) (hk : k.size ≤ 140737488355328) :
    Calls Tryz.prog 5 #[.pointer (some ⟨n, 0, none⟩), .string k] w fun E w' => E = .returned (.tuple #[.string (gv (Sto.fold (Rst.sto x.s)) k), .bool (gp (Sto.fold (Rst.sto x.s)) k), .int .i64 0]) ∧ Below w.heap.size w w' := by
  have hmf : ∀ (fn : Fn) (first cap : Array Value) (w : World), (Instr.makeFunc fn first cap).run Tryz.prog w = .ok (.func fn first cap) w := fun _ _ _ _ => rfl
  obtain ⟨w1, hw1, s1, b1, P1⟩ := blk_step w #[.pointer (some ⟨n, 0, none⟩)] 31
  obtain ⟨w2, hw2, s2, b2, P2⟩ := blk_step w1 #[.string k] 9
  obtain ⟨w3, hw3, s3, b3, P3⟩ := blk_step w2 #[.string ⟨#[]⟩] 9
  obtain ⟨w4, hw4, s4, b4, P4⟩ := blk_step w3 #[.bool false] 4
  rw [s1] at P2
  rw [s2, s1] at P3
  rw [s3, s2, s1] at P4
  have b04 : Below w.heap.size w w4 := ((b1.trans (b2.mono (by omega))).trans (b3.mono (by omega))).trans (b4.mono (by omega))
  have P1 := (b4.block _ (by omega)).trans ((b3.block _ (by omega)).trans ((b2.block _ (by omega)).trans P1))
  have P2 := (b4.block _ (by omega)).trans ((b3.block _ (by omega)).trans P2)
  have P3 := (b4.block _ (by omega)).trans P3
  have R1 := fun W hW => nread1_any n p q w.heap.size F W x (h.below hW) hR hr k hk
  generalize gv (Sto.fold (Rst.sto x.s)) k = gvv at *
  generalize gp (Sto.fold (Rst.sto x.s)) k = gpp at *
  have CL := ncall_any n p q F w4 x (h.below b04) hon 24 #[] #[.pointer (some ⟨w.heap.size, 0, none⟩), .pointer (some ⟨w.heap.size + 1, 0, none⟩), .pointer (some ⟨w.heap.size + 1 + 1, 0, none⟩), .pointer (some ⟨w.heap.size + 1 + 1 + 1, 0, none⟩)] _ (enters_of Tryz.func24 (by kernel_rfl) rfl) rfl (fun e W w' => e = 0 ∧ w'.heap[w.heap.size + 1 + 1]? = some (.cells #[.string gvv] 9 (0, 0)) ∧ w'.heap[w.heap.size + 1 + 1 + 1]? = some (.cells #[.bool gpp] 4 (0, 0)) ∧ Below w.heap.size w w') (fun W hW => by
    have zW := hW.size
    refine (R1 W (b04.trans (hW.mono (by omega))) ((hW.block _ (by omega)).trans P1) ((hW.block _ (by omega)).trans P2) ((hW.block _ (by omega)).trans P3) ((hW.block _ (by omega)).trans P4)).mono ?_
    rintro E w' ⟨rfl, r1, r2, o⟩
    exact ⟨0, rfl, rfl, fun g g1 g2 => o.block g g2 (by omega), o.size, rfl, r1, r2, (b04.trans (hW.mono (by omega))).trans (o.below (base := w.heap.size) (fun g e => by omega) (by omega))⟩)
  have CL := hide CL
  have FIN : Hid (∀ W W1 B w5, Below w4.heap.size w4 W → w4.heap.size ≤ B ∧ B < W.heap.size → W1.grownBy w5 (some B) → W1.heap[w.heap.size + 1 + 1]? = some (.cells #[.string gvv] 9 (0, 0)) → W1.heap[w.heap.size + 1 + 1 + 1]? = some (.cells #[.bool gpp] 4 (0, 0)) → Below w.heap.size w W1 → w5.heap[w.heap.size + 1 + 1]? = some (.cells #[.string gvv] 9 (0, 0)) ∧ w5.heap[w.heap.size + 1 + 1 + 1]? = some (.cells #[.bool gpp] 4 (0, 0)) ∧ Below w.heap.size w w5) := hide fun W W1 B w5 hW hB g c d k =>
    ⟨(g.block _ (blk_lt c) (fun e => by have := Option.some.inj e; omega)).trans c, (g.block _ (blk_lt d) (fun e => by have := Option.some.inj e; omega)).trans d, below_put k g (by omega) k.size⟩
  have d1 : w4.cell? ⟨w.heap.size, 0, none⟩ = some (.pointer (some ⟨n, 0, none⟩)) := blk_cell P1 0 rfl
  clear R1 P1 P2 P3 P4 b1 b2 b3 b4 b04 s4 h hR hon hr hk
  go_enter Tryz.func5, Tryz.ntmps5
  go_wp2_with fail
  refine CL.out.mono ?_
  rintro E w5 ⟨e, rfl, W, W1, B, hW, hB, g, rfl, c, d, k⟩
  obtain ⟨q4, q5, b5⟩ := FIN.out W W1 B w5 hW hB g c d k
  have RR := hide b5
  have e4 : w5.cell? ⟨w.heap.size + 1 + 1, 0, none⟩ = some (.string gvv) := blk_cell q4 0 rfl
  have f4 := blk_froz q4 0
  have u4 : w5.setCell ⟨w.heap.size + 1 + 1, 0, none⟩ (.string gvv) = w5 := set_same q4 (j := 0) rfl
  have e5 : w5.cell? ⟨w.heap.size + 1 + 1 + 1, 0, none⟩ = some (.bool gpp) := blk_cell q5 0 rfl
  have f5 := blk_froz q5 0
  have u5 : w5.setCell ⟨w.heap.size + 1 + 1 + 1, 0, none⟩ (.bool gpp) = w5 := set_same q5 (j := 0) rfl
  clear CL FIN hW hB g c d k q4 q5 b5
  go_wp2_with fail
  go_region
  all_goals
    go_wp2
    refine bodyPost_ret (v := .tuple #[.string gvv, .bool gpp, .int .i64 0]) (by simp [results, Tryz.results5, go_sem, e4, e5]) rfl ?_
    exact ⟨rfl, RR.out.drew⟩

end Go.Proofs.YtajlhdmnincehaaGreatDoor
