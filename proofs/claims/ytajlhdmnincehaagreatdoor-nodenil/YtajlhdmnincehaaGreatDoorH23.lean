/- Texts of one layer, one behind the other. -/
import Derived.Test.YtajlhdmnincehaaGreatDoorH15
import Derived.Test.YtajlhdmnincehaaGreatDoorH2
import Derived.Test.YtajlhdmnincehaaGreatDoorH3
import Derived.Test.YtajlhdmnincehaaGreatDoorH17
/- The program's log grows by a commit: the method. -/
namespace Go.Proofs.YtajlhdmnincehaaGreatDoor
open Go.RowKit
set_option linter.unusedVariables false

theorem cells_other (cs : Array Value) (i j : Nat) (v : Value) (h : i ≠ j) : (cs.setIfInBounds i v)[j]? = cs[j]? := by
  rw [Array.getElem?_setIfInBounds, if_neg h]

set_option maxRecDepth 20000 in
set_option maxHeartbeats 4000000 in
theorem lgrow_any (base b o : Nat) (t : TypeId) (cs : Array Value) (w : World) (l : List Cm.Cv) (vc ve : Value) (rs : List Cw) (c : Cw) (size : Nat)
    (hB : w.heap[b]? = some (.cells cs t (0, 0))) (ho : cs[o]? = some vc) (ho1 : cs[o + 1]? = some ve) (h1 : t ≠ 93) (h2 : t ≠ 3) (h3 : t ≠ 88) (h : Lw base w l vc ve rs) (hbase : base ≤ w.heap.size)
    (hc : OwnO 88 base w c.v c.l) (hg : Cm.Good 0 0 (l ++ [c.c])) (hs : size = (Wl.fr c.c).length) :
    Calls Tryz.prog 222 #[.pointer (some ⟨b, o, none⟩), cmv c.e c.n c.v, .int .i64 size] w fun E w' => E = .returned (.tuple #[]) ∧
      ∃ vc' ve', w'.heap[b]? = some (.cells ((cs.setIfInBounds (o + 1) ve').setIfInBounds o vc') t (0, 0)) ∧ Lw base w' (l ++ [c.c]) vc' ve' (rs ++ [c]) ∧ Out (fun g => g = b ∨ LB vc ve rs g) w w' ∧ ∀ g, LB vc' ve' (rs ++ [c]) g → LB vc ve rs g ∨ w.heap.size ≤ g ∨ c.v.ownBlock = some g := by
  have hll := good_len h.good
  have hlen := h.len
  obtain ⟨ao, cap, hv, _, _⟩ := hc.is.shape
  obtain ⟨w1, hw1, sz1, bel1, hB0⟩ := blk_step w #[.int .i64 c.e, .int .i64 c.n, c.v] 93
  have hbw : b < w.heap.size := blk_lt hB
  have hB1 : w1.heap[b]? = some (.cells cs t (0, 0)) := (bel1.block b hbw).trans hB
  have L1 := h.below bel1
  have hsum : (Wl.lgb (l ++ [c.c])).length = (Wl.lgb l).length + size := by rw [Wl.lgb_app, Wl.lgb_one, List.length_append, hs]
  have hle := lgb_le hg
  have hx : (Lit.int .i64 ((Wl.lgb l).length + size : Int)).wf = true := by
    have h5 : (Wl.lgb l).length + size ≤ 454033408 := by omega
    exact wf_i64 (by omega) (by omega)
  have HE : Hid (Calls Tryz.prog 147 #[.pointer (some ⟨b, o, none⟩)] w1.drew fun E w' => ∃ v, E = .returned v ∧ (v = .int .i64 rs.length ∧ w1.drew = w')) := hide ((lend_any b o w1.drew vc rs (blk_cell hB1 o ho) (L1.r.row.row.below ((Below.refl _ _).drew))).mono fun E w' h => ⟨_, h.1, rfl, h.2⟩)
  have HP : Hid (Calls Tryz.prog 256 #[.pointer (some ⟨b, o, none⟩), .int .i64 rs.length] w1.drew fun E w' => ∃ v, E = .returned v ∧ (v = .int .i64 (Wl.lgb l).length ∧ w1.drew = w')) := hide (by
    have := lplace_any b o w1.drew ve l rs.length (by omega) hll (blk_cell hB1 (o + 1) ho1) (L1.r.en.is.drewN 1)
    rw [List.take_of_length_le (by omega)] at this
    exact this.mono fun E w' h => ⟨_, h.1, rfl, h.2⟩)
  obtain ⟨V1, hV1, cV1, X1⟩ := ends_tail (o := o) hB1 ho1 h1 h2 h3 L1.r (by rw [ends_len]; exact hll) (by omega) ((Wl.lgb l).length + size : Int) hx
  have T2 : Hid (∀ v' U, U.heap[b]? = some (.cells (cs.setIfInBounds (o + 1) v') t (0, 0)) → Lr base U vc v' rs (ends l ++ [((Wl.lgb l).length + size : Int)]) → Out (fun g => g = b ∨ ve.ownBlock = some g) w1 U → (v'.ownBlock = ve.ownBlock ∨ ∃ g, v'.ownBlock = some g ∧ w1.heap.size ≤ g) →
      ∃ V, U.drew.alloc (.cells #[.int .i64 c.e, .int .i64 c.n, c.v] 93) = V ∧ V.cell? ⟨b, o, none⟩ = some vc ∧ U.cell? ⟨b, o, none⟩ = some vc ∧ (U.cell? ⟨w.heap.size, 0, none⟩ = some (.int .i64 c.e) ∧ U.cell? ⟨w.heap.size, 1, none⟩ = some (.int .i64 c.n) ∧ U.cell? ⟨w.heap.size, 2, none⟩ = some c.v) ∧ (V.cell? ⟨w.heap.size, 0, none⟩ = some (.int .i64 c.e) ∧ V.cell? ⟨w.heap.size, 1, none⟩ = some (.int .i64 c.n) ∧ V.cell? ⟨w.heap.size, 2, none⟩ = some c.v) ∧
      Hid (∀ ty, ∃ v2 w2, (Builtin.append_ #[25, 25] ty #[vc, .slice (some ⟨U.heap.size, 0, none⟩) 1 1]).run Tryz.prog V = .ok v2 w2 ∧ ((∃ U2, w2.setCell ⟨b, o, none⟩ v2 = U2 ∧
        (U2.heap[b]? = some (.cells ((cs.setIfInBounds (o + 1) v').setIfInBounds o v2) t (0, 0)) ∧ Lw base U2 (l ++ [c.c]) v2 v' (rs ++ [c]) ∧ Out (fun g => g = b ∨ LB vc ve rs g) w U2 ∧ ∀ g, LB v2 v' (rs ++ [c]) g → LB vc ve rs g ∨ w.heap.size ≤ g ∨ c.v.ownBlock = some g)) ∧ w2.cell? ⟨b, o, none⟩ = some vc ∧ w2.frozen? ⟨b, o, none⟩ = false ∧ ∃ a n c, v2 = .slice a n c))) := hide fun v' U hBU LU oU aU => by
    have hoU : (cs.setIfInBounds (o + 1) v')[o]? = some vc := by rw [cells_other _ _ _ _ (by omega)]; exact ho
    have hne : ¬ (w.heap.size = b ∨ ve.ownBlock = some w.heap.size) := by
      rintro (e | e)
      · omega
      · have := (h.r.en.block _ e).2
        omega
    have hB0U := (oU.block w.heap.size (by omega) hne).trans hB0
    have hcU : OwnO 88 base U c.v c.l := by
      refine row_agree (hc.below bel1) fun g hg' => oU.block g (OwnO.block (hc.below bel1) g hg').2 ?_
      obtain ⟨c1, e1⟩ := (hc.below bel1).type hg'
      rintro (e | e)
      · rw [e, hB1] at e1
        simp only [Option.some.injEq, Obj.cells.injEq] at e1
        exact h3 e1.2.1
      · obtain ⟨c2, e2⟩ := L1.r.en.type e
        rw [e1] at e2
        simp only [Option.some.injEq, Obj.cells.injEq] at e2
        exact absurd e2.2.1 (by decide)
    obtain ⟨V2, hV2, cV2, X2⟩ := coms_tail (o := o) hBU hoU h1 h2 h3 LU (by omega) (by have := oU.size; omega) c hcU
    have belV : Below U.heap.size U V2 := by
      rw [← hV2]
      exact (Below.refl U.heap.size U).drew.trans (show Below U.heap.size U.drew _ from (Below.refl U.drew.heap.size U.drew).alloc (Nat.le_refl _) _)
    have hB0V := (belV.block w.heap.size (by have := oU.size; omega)).trans hB0U
    refine ⟨V2, hV2, cV2, blk_cell hBU o hoU, ⟨blk_cell hB0U 0 rfl, blk_cell hB0U 1 rfl, blk_cell hB0U 2 rfl⟩, ⟨blk_cell hB0V 0 rfl, blk_cell hB0V 1 rfl, blk_cell hB0V 2 rfl⟩, hide fun ty => ?_⟩
    obtain ⟨v2, w2, hr, ⟨U2, hU2, hBU2, LU2, oU2, aU2⟩, k1, k2, k3⟩ := X2.out ty
    refine ⟨v2, w2, hr, ⟨U2, hU2, hBU2, ⟨?_, ?_, hg⟩, ?_, ?_⟩, k1, k2, k3⟩
    · rw [ends_snoc, hsum]
      exact LU2
    · rw [cvs, List.map_append, ← cvs, h.is]
      rfl
    · have s1 : Out (fun g => g = b ∨ LB vc ve rs g) w w1 := Out.of_below bel1
      have s2 : Out (fun g => g = b ∨ LB vc ve rs g) w U := s1.trans oU fun g hg => .inl (hg.elim .inl fun e => .inr (.inr (.inl e)))
      exact s2.trans oU2 fun g hg => .inl (hg.elim .inl fun e => .inr (.inl e))
    · have su := oU.size
      rintro g (e | e | ⟨d, hd, e⟩)
      · rcases aU2 with a | ⟨g', a, hg'⟩
        · exact .inl (.inl (a ▸ e))
        · rw [e] at a
          simp only [Option.some.injEq] at a
          exact .inr (.inl (by omega))
      · rcases aU with a | ⟨g', a, hg'⟩
        · exact .inl (.inr (.inl (a ▸ e)))
        · rw [e] at a
          simp only [Option.some.injEq] at a
          exact .inr (.inl (by omega))
      · rcases List.mem_append.1 hd with hd | hd
        · exact .inl (.inr (.inr ⟨d, hd, e⟩))
        · rw [List.mem_singleton.1 hd] at e
          exact .inr (.inr e)
  have X1' : Hid (∀ ty, ∃ v' w', (Builtin.append_ #[188, 188] ty #[ve, .slice (some ⟨w1.heap.size, 0, none⟩) 1 1]).run Tryz.prog V1 = .ok v' w' ∧ ((∃ U, w'.setCell ⟨b, o + 1, none⟩ v' = U ∧ (U.heap[b]? = some (.cells (cs.setIfInBounds (o + 1) v') t (0, 0)) ∧ Lr base U vc v' rs (ends l ++ [((Wl.lgb l).length + size : Int)]) ∧ Out (fun g => g = b ∨ ve.ownBlock = some g) w1 U ∧ (v'.ownBlock = ve.ownBlock ∨ ∃ g, v'.ownBlock = some g ∧ w1.heap.size ≤ g))) ∧ w'.cell? ⟨b, o + 1, none⟩ = some ve ∧ w'.frozen? ⟨b, o + 1, none⟩ = false ∧ ∃ a n c, v' = .slice a n c)) := X1
  have c1 := blk_cell hB1 (o + 1) ho1
  have hwr : IntKind.i64.wrap (((Wl.lgb l).length : Int) + size) = ((Wl.lgb l).length : Int) + size := wrap_i64_small _ (by omega) (by omega)
  obtain ⟨ea, ec, hve, _, _⟩ := h.r.en.is.shape
  obtain ⟨ca, cc, hvc, _, _⟩ := h.r.row.row.shape
  unfold cmv
  rw [hv] at hw1 T2 ⊢
  subst hve hvc
  generalize (Wl.lgb l).length = z at *
  clear hB h hc hB0 hB1 L1 X1 hg hs hsum hle hll hv ho ho1 hx bel1 hlen
  go_enter Tryz.func222, Tryz.ntmps222
  go_wp2_with fail
  go_region_law (first
    | (refine call_at rfl 147 #[.tmp 12] #[255] rfl Tryz.enters147 #[.pointer (some ⟨b, o, none⟩)] (by first | (simp [Act.eval]; done) | (simp [Act.eval, Act.put]; done)) HE.out ?_; rintro _ _ ⟨rfl, rfl⟩)
    | (refine call_at rfl 256 #[.tmp 11, .tmp 13] #[255, 3] rfl Tryz.enters256 #[.pointer (some ⟨b, o, none⟩), .int .i64 rs.length] (by first | (simp [Act.eval]; done) | (simp [Act.eval, Act.put]; done)) HP.out ?_; rintro _ _ ⟨rfl, rfl⟩)
    | (refine step_append_at rfl (.tmp 10) (.tmp 17) 188 rfl (.slice ea (ends l).length ec) (.slice (some ⟨w1.heap.size, 0, none⟩) 1 1) (by first | (simp [Act.eval]; done) | (simp [Act.eval, Act.put]; done)) (by first | (simp [Act.eval]; done) | (simp [Act.eval, Act.put]; done)) X1'.out ?_; rintro v7 w7 ⟨⟨U, hU, hBU, LU, oU, aU⟩, d7, g7, a7, n7, k7, rfl⟩; obtain ⟨V2, hV2, cV2, cU2, ⟨p0, p1, p2⟩, ⟨r0, r1, r2⟩, X2⟩ := T2.out _ U hBU LU oU aU; clear hBU LU oU aU))
  all_goals
    go_wp2_with fail
    go_region_law (refine step_append_at rfl (.tmp 25) (.tmp 27) 25 rfl (.slice ca rs.length cc) (.slice (some ⟨U.heap.size, 0, none⟩) 1 1) (by first | (simp [Act.eval]; done) | (simp [Act.eval, Act.put]; done)) (by first | (simp [Act.eval]; done) | (simp [Act.eval, Act.put]; done)) X2.out ?_; rintro v8 w8 ⟨⟨U2, hU2, J⟩, d8, g8, a8, n8, k8, rfl⟩; have J := hide J)
    all_goals
      go_wp2
      go_end0
      exact ⟨rfl, _, _, J.out⟩

end Go.Proofs.YtajlhdmnincehaaGreatDoor

/- The program reads a log out of bytes. -/
namespace Go.Proofs.YtajlhdmnincehaaGreatDoor
open Go.RowKit
set_option linter.unusedVariables false

/-- What reading has by now: the log's block B + 1, the answer's B. -/
structure Rst12 (w wr : World) (bs : List Int) (l : List Cm.Cv) (vc ve : Value) (rs : List Cw) : Prop where
  rd : Rdl bs l
  log : Lw (w.heap.size + 2) wr l vc ve rs
  ap : ApC rs
  bR : wr.heap[w.heap.size]? = some (.cells #[.slice none 0 0, .slice none 0 0] 190 (0, 0))
  bL : wr.heap[w.heap.size + 1]? = some (.cells #[vc, ve] 190 (0, 0))
  bel : Below w.heap.size w wr
  sz : w.heap.size + 2 ≤ wr.heap.size





end Go.Proofs.YtajlhdmnincehaaGreatDoor
