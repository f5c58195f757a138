/- Texts of one layer, one behind the other. -/
import Derived.Test.YtfnaeblbodfekaaG8
import Derived.Test.YtfnaeblbodfekaaGP
import Derived.Test.YtfnaeblbodfekaaG9
import Derived.Test.YtfnaeblbodfekaaGO
/- LentCommits: the lists of ops lie apart; three lists of commits, apart. -/
namespace Go.Proofs.Ytfnaeblbodfekaa
open Go.RowKit
set_option linter.unusedVariables false

theorem LentV.ownO {base : Nat} {w : World} {v : Value} {l : List Bm.Ov} (h : LentV base w v l) : OwnO 59 base w v l := by
  obtain ⟨g, cap, rfl, hc, hm, ho⟩ := h
  have ho' : w.ownsRow base 59 3 (.slice (some ⟨g, 0, none⟩) (l.length + 3) cap) (l.length + 3) (ocells (l ++ [behind, behind, behind])) := by
    have := ho
    unfold OwnO at this
    rw [List.length_append] at this
    exact this
  have := own_frontO ho' l.length (by omega)
  rw [← ocells_take, List.take_left] at this
  exact this

set_option maxHeartbeats 1000000 in
theorem lentCs_ap (vl : Value) (r : List Cw) (w : World) (h : IsC w vl r) (hf : FitC r) (hl : r.length ≤ 1000) :
    Calls Try.prog 13 #[vl] w fun E w' => ∃ v rs, E = .returned v ∧ OwnR 50 w.heap.size w' v (rs ++ [behC, behC, behC]) ∧ cvs rs = cvs r ∧ LentR w.heap.size w' rs ∧ ApC rs ∧ Below w.heap.size w w' := by
  obtain ⟨ao, cap, hvl, _, _⟩ := h.1.shape
  have hcell : 0 < r.length → ∃ b1 o1 c1, vl = .slice (some ⟨b1, o1, none⟩) r.length c1 ∧ b1 < w.heap.size ∧ ∀ i c, r[i]? = some c → w.cell? ⟨b1, o1 + i * 3, none⟩ = some (.int .i64 c.e) ∧ w.cell? ⟨b1, o1 + i * 3 + 1, none⟩ = some (.int .i64 c.n) ∧ w.cell? ⟨b1, o1 + i * 3 + 2, none⟩ = some c.v := by
    intro hp
    obtain ⟨b1, o1, c1, hv, _, _, hB, hc⟩ := h.1.full hp
    exact ⟨b1, o1, c1, hv, hB, hc⟩
  subst hvl
  have HIN := hide h.2
  have HFIT := hide hf
  have HC := hide hcell
  generalize hn : r.length = n at *
  have HN := hide hn
  clear h hcell hf hn
  go_enter Try.func13, Try.ntmps13
  go_wp2
  go_loopw [3, 4] (fun ov iv wr => ∃ (k : Nat) (rs : List Cw), k ≤ n ∧ iv = .int .i64 k ∧ rs.length = k ∧ Hid (OwnR 50 w.heap.size wr ov rs ∧ cvs rs = cvs (r.take k) ∧ LentR w.heap.size wr rs ∧ ApC rs) ∧ Below w.heap.size w wr) (fun _ iv _ => n - (intOf iv).toNat)
  case atStart => exact ⟨0, [], by omega, rfl, rfl, ⟨OwnR.nil _ _ _, rfl, fun c hc => by simp at hc, fun i j c d _ hc => by simp at hc⟩, Below.refl _ _⟩
  case round =>
    obtain ⟨k, rs, hk, rfl, hrl, HT, bel⟩ := hrel
    have sz := bel.size
    by_cases hlt : k < n
    · obtain ⟨b1, o1, c1, hvx, hB, hcell⟩ := HC.out (by have := HN.out; omega)
      simp only [Value.slice.injEq, true_and] at hvx
      obtain ⟨rfl, rfl⟩ := hvx
      obtain ⟨c, hc⟩ : ∃ c, r[k]? = some c := ⟨r[k]'(by have := HN.out; omega), by rw [List.getElem?_eq_getElem]⟩
      obtain ⟨e0, e1, e2⟩ := hcell k c hc
      have d0 := (bel.cell (p := ⟨b1, o1 + k * 3, none⟩) hB).trans e0
      have d1 := (bel.cell (p := ⟨b1, o1 + k * 3 + 1, none⟩) hB).trans e1
      have d2 := (bel.cell (p := ⟨b1, o1 + k * 3 + 2, none⟩) hB).trans e2
      have hmem := List.mem_of_getElem? hc
      obtain ⟨i1, _, _⟩ := HIN.out c hmem
      have i2 := i1.below bel
      obtain ⟨hfc, hlc⟩ := HFIT.out c hmem
      have HCK := hide hc
      have hlt' : (k : Int) < n := by omega
      clear hc hmem i1 e0 e1 e2 hcell
      go_wp2_with fail
      refine (lentC_any c.e c.n _ c.l _ i2 hlc).mono ?_
      rintro E w2 ⟨v2, rfl, own2, bel2⟩
      unfold cmv
      have sz2 := bel2.size
      obtain ⟨ah, ch, hv2, _, _⟩ := own2.is.shape
      subst hv2
      obtain ⟨w3, hw3, sz3, bel3, own3⟩ := coms_step 50 w2 #[.int .i64 c.e, .int .i64 c.n, .slice ah c.l.length ch] 1 [⟨c.e, c.n, .slice ah c.l.length ch, c.l⟩] rfl rfl (by simp [maxLen])
      obtain ⟨hO, hE, hP, hA⟩ := HT.out
      have HA2 : Hid (ApC (rs ++ [⟨c.e, c.n, .slice ah c.l.length ch, c.l⟩])) := hide (apc_snoc (N := wr.heap.size) hA (fun d hd b hb => ((hP d hd).ownO.block b hb).2) (fun b hb => (own2.ownO.block b hb).1))
      have bel23 : Below wr.heap.size wr w3 := bel2.trans (bel3.mono (by omega))
      have hO3 := hO.below bel23
      have hP3 := hP.below bel23
      have own23 := (own2.below bel3).rebase (base' := w.heap.size) (by omega)
      have hlk : (rs.length + [(⟨c.e, c.n, .slice ah c.l.length ch, c.l⟩ : Cw)].length) * 40 ≤ 140737488355328 := by rw [List.length_singleton]; omega
      have HE := hide hE
      have HP := hide hP3
      have bel03 : Below w.heap.size w w3 := bel.trans (bel23.mono (by omega))
      clear HT hO hP hP3 hE hA bel2 bel3 bel23 own2 bel d0 d1 d2 i2
      go_wp2_with (at_builtin; refine wpList_append_coms rfl (.tmp 12) (.tmp 18) 22 rfl 50 w.heap.size Try.underlying22 Try.info50 _ rs rfl hO3 _ _ rfl own3.row (by intro c hc; rw [List.mem_singleton.1 hc]; rfl) hlk (by omega) ?_)
      intro v4 w4 own4 bel4 kp4
      have HT2 : Hid (OwnR 50 w.heap.size w4 v4 (rs ++ [⟨c.e, c.n, .slice ah c.l.length ch, c.l⟩]) ∧ cvs (rs ++ [⟨c.e, c.n, .slice ah c.l.length ch, c.l⟩]) = cvs (r.take (k + 1)) ∧ LentR w.heap.size w4 (rs ++ [⟨c.e, c.n, .slice ah c.l.length ch, c.l⟩]) ∧ ApC (rs ++ [⟨c.e, c.n, .slice ah c.l.length ch, c.l⟩])) :=
        ⟨own4, cvs_snoc HE.out HCK.out rfl, (HP.out.keepT kp4).snoc (own23.keepT kp4 (by decide)), HA2.out⟩
      have bel04 := bel03.trans bel4
      clear own4 kp4 own23 own3 hO3 HE HP HA2 bel03 bel4 hlk
      go_wp2
      go_roundw
      case rel => exact ⟨k + 1, _, by omega, by go_num, by rw [List.length_append, hrl]; rfl, HT2, bel04⟩
      case measure => simp [intOf]; omega
    · have hlt' : ¬ (k : Int) < n := by omega
      have HE : Hid (cvs rs = cvs r) := hide (by rw [HT.out.2.1, List.take_of_length_le (by have := HN.out; omega)])
      have HS := HT.out.1
      have HAP := hide HT.out.2.2.2
      have hS0 : Hid (OwnR 50 w.heap.size wr _ (rs ++ List.replicate 0 behC) ∧ LentR w.heap.size wr rs) := ⟨by simpa using HS, HT.out.2.2.1⟩
      clear HT HS
      go_wp2
      go_loopw [3, 5] (fun ov iv wq => ∃ (j : Nat), j ≤ 3 ∧ iv = .int .i64 j ∧ Hid (OwnR 50 w.heap.size wq ov (rs ++ List.replicate j behC) ∧ LentR w.heap.size wq rs) ∧ Below w.heap.size w wq) (fun _ iv _ => 3 - (intOf iv).toNat)
      case atStart => exact ⟨0, by omega, rfl, hS0, bel⟩
      case round =>
        obtain ⟨j, hj, rfl, HJ, belJ⟩ := hrel
        have szJ := belJ.size
        by_cases hlj : j < 3
        · have hlj' : (j : Int) < 3 := by omega
          obtain ⟨w3, hw3, sz3, bel3, own3⟩ := coms_step 50 wr #[.int .i64 (-7), .int .i64 0, .slice none 0 0] 1 [behC] rfl rfl (by simp [maxLen])
          have hO3 := HJ.out.1.below bel3
          have HP := hide (HJ.out.2.below bel3)
          have hlk : ((rs ++ List.replicate j behC).length + [behC].length) * 40 ≤ 140737488355328 := by rw [List.length_append, List.length_replicate, List.length_singleton]; omega
          have bel03 : Below w.heap.size w w3 := belJ.trans (bel3.mono (by omega))
          clear HJ belJ bel3 hS0
          go_wp2_with (at_builtin; refine wpList_append_coms rfl (.tmp 24) (.tmp 26) 22 rfl 50 w.heap.size Try.underlying22 Try.info50 _ _ rfl hO3 _ [behC] rfl own3.row (by intro c hc; rw [List.mem_singleton.1 hc]; rfl) hlk (by omega) ?_)
          intro v4 w4 own4 bel4 kp4
          have HT2 : Hid (OwnR 50 w.heap.size w4 v4 (rs ++ List.replicate (j + 1) behC) ∧ LentR w.heap.size w4 rs) := ⟨by rw [List.replicate_succ']; exact own4, HP.out.keepT kp4⟩
          have bel04 := bel03.trans bel4
          clear own4 kp4 own3 hO3 HP bel03 bel4 hlk
          go_wp2
          go_roundw
          case rel => exact ⟨j + 1, by omega, by go_num, HT2, bel04⟩
          case measure => simp [intOf]; omega
        · have hlj' : ¬ (j : Int) < 3 := by omega
          have hj3 : j = 3 := by omega
          subst hj3
          clear hS0
          go_wp2
          go_ret
          exact ⟨_, rfl, rs, HJ.out.1, HE.out, HJ.out.2, HAP.out, belJ⟩

/-- A list of commits of the statement's own. -/
structure Oc (base : Nat) (w : World) (v : Value) (r : List Cw) : Prop where
  c : OwnR 50 base w v r
  o : CopyR base w r
  i : ∀ c ∈ r, In64 c.e ∧ In64 c.n
  ap : ApC r
  len : r.length ≤ 1000
  ops : ∀ c ∈ r, c.l.length ≤ 1000
  fit : FitC r

theorem Oc.below {base : Nat} {w w' : World} {v : Value} {r : List Cw} (h : Oc base w v r) (hb : Below w.heap.size w w') : Oc base w' v r := ⟨h.c.below hb, h.o.below hb, h.i, h.ap, h.len, h.ops, h.fit⟩
theorem Oc.rebase {base base' : Nat} {w : World} {v : Value} {r : List Cw} (h : Oc base w v r) (hb : base' ≤ base) : Oc base' w v r := ⟨h.c.rebase hb, fun c hc => (h.o c hc).rebase hb, h.i, h.ap, h.len, h.ops, h.fit⟩

/-- Its blocks end ahead of s. -/
def Oc.Lt (v : Value) (r : List Cw) (s : Nat) : Prop := (∀ b, v.ownBlock = some b → b < s) ∧ ∀ c ∈ r, ∀ b, c.v.ownBlock = some b → b < s

theorem Oc.lt {base : Nat} {w : World} {v : Value} {r : List Cw} (h : Oc base w v r) : Oc.Lt v r w.heap.size := ⟨fun b hb => (World.ownsRow.lt h.c b hb).2, fun c hc b hb => (World.ownsRow.lt (h.o c hc) b hb).2⟩

/-- 'v[:k]' of a row of commits of one's own. -/
theorem ownR_cut {base : Nat} {w : World} {v : Value} {l : List Cw} (h : OwnR 50 base w v l) (k : Nat) (hk : k ≤ l.length) (h0 : 0 < l.length) :
    ∃ vs, (∀ wx, (Instr.slice 22 v none (some (.int .i64 k)) none).run Try.prog wx = .ok vs wx) ∧ OwnR 50 base w vs (l.take k) ∧ vs.ownBlock = v.ownBlock ∧ ∃ a c, vs = .slice a k c := by
  rcases h.2 with ⟨_, hn⟩ | ⟨g, cap, cur, hv, _, _, hc, hm, _⟩
  · omega
  · subst hv
    refine ⟨.slice (some ⟨g, 0, none⟩) k cap, fun wx => ?_, ?_, rfl, _, _, rfl⟩
    · rw [run_slice_h wx 22 (some ⟨g, 0, none⟩) l.length cap Try.elemC .i64 _ (by omega) (by omega), Try.sizeC]
      simp only [Result.andThen, sliced]
      simp [Addr.add]
    · unfold OwnR at h ⊢
      rw [List.length_take, Nat.min_eq_left hk, ccells_take]
      exact own_cut h k hk

def tri17 {α : Type} (a b c : α) : Nat → α
  | 0 => a
  | 1 => b
  | _ => c

theorem ap_app {r1 r2 : List Cw} {s : Nat} (h1 : ApC r1) (h2 : ApC r2) (b1 : ∀ c ∈ r1, ∀ b, c.v.ownBlock = some b → b < s) (b2 : ∀ c ∈ r2, ∀ b, c.v.ownBlock = some b → s ≤ b) : ApC (r1 ++ r2) := by
  intro i j x y hij hx hy
  have key : (∀ b d, x.v.ownBlock = some b → y.v.ownBlock = some d → b ≠ d) → x.v.ownBlock = none ∨ x.v.ownBlock ≠ y.v.ownBlock := by
    intro h
    cases hu : x.v.ownBlock with
    | none => exact .inl rfl
    | some b => exact .inr fun e => h b b hu e.symm rfl
  by_cases hi : i < r1.length
  · rw [List.getElem?_append_left hi] at hx
    by_cases hj : j < r1.length
    · rw [List.getElem?_append_left hj] at hy
      exact h1 i j x y hij hx hy
    · rw [List.getElem?_append_right (by omega)] at hy
      refine key fun b d hb hd e => ?_
      have := b1 x (List.mem_of_getElem? hx) b hb
      have := b2 y (List.mem_of_getElem? hy) d hd
      omega
  · rw [List.getElem?_append_right (by omega)] at hx
    by_cases hj : j < r1.length
    · rw [List.getElem?_append_left hj] at hy
      refine key fun b d hb hd e => ?_
      have := b2 x (List.mem_of_getElem? hx) b hb
      have := b1 y (List.mem_of_getElem? hy) d hd
      omega
    · rw [List.getElem?_append_right (by omega)] at hy
      exact h2 _ _ x y (by omega) hx hy

theorem ap_comm {r1 r2 : List Cw} (h : ApC (r1 ++ r2)) : ApC (r2 ++ r1) := by
  intro i j x y hij hx hy
  have m : ∀ (k : Nat) (z : Cw), (r2 ++ r1)[k]? = some z → ∃ k', (r1 ++ r2)[k']? = some z ∧ k' = (if k < r2.length then k + r1.length else k - r2.length) := by
    intro k z hz
    by_cases hk : k < r2.length
    · rw [List.getElem?_append_left hk] at hz
      refine ⟨k + r1.length, ?_, by rw [if_pos hk]⟩
      rw [List.getElem?_append_right (by omega), Nat.add_sub_cancel]
      exact hz
    · rw [List.getElem?_append_right (by omega)] at hz
      have hl := (List.getElem?_eq_some_iff.1 hz).1
      refine ⟨k - r2.length, ?_, by rw [if_neg hk]⟩
      rw [List.getElem?_append_left hl]
      exact hz
  obtain ⟨i', hi', ei⟩ := m i x hx
  obtain ⟨j', hj', ej⟩ := m j y hy
  have hli := (List.getElem?_eq_some_iff.1 hx).1
  have hlj := (List.getElem?_eq_some_iff.1 hy).1
  rw [List.length_append] at hli hlj
  refine h i' j' x y ?_ hi' hj'
  rw [ei, ej]
  split <;> split <;> omega

theorem listsC_tri {b0 s1 s2 : Nat} {w : World} {vc vx vo : Value} {rc rx ro : List Cw} (hc : Oc s1 w vc rc) (hx : Oc s2 w vx rx) (ho : Oc b0 w vo ro) (h01 : b0 ≤ s1) (h12 : s1 ≤ s2) (lo : Oc.Lt vo ro s1) (lc : Oc.Lt vc rc s2) :
    ListsC 3 w.heap.size b0 (w.alloc (.cells #[vc, vx, vo] 22)) (tri17 vc vx vo) (tri17 rc rx ro) := by
  have bel : Below w.heap.size w (w.alloc (.cells #[vc, vx, vo] 22)) := (Below.refl _ _).alloc (Nat.le_refl _) _
  have hc' := (hc.below bel).rebase h01
  have hx' := (hx.below bel).rebase (Nat.le_trans h01 h12)
  have ho' := ho.below bel
  have thr : ∀ i, i < 3 → i = 0 ∨ i = 1 ∨ i = 2 := by omega
  have tc : ∀ b, vc.ownBlock = some b → s1 ≤ b ∧ b < w.heap.size := World.ownsRow.lt hc.c
  have tx : ∀ b, vx.ownBlock = some b → s2 ≤ b ∧ b < w.heap.size := World.ownsRow.lt hx.c
  have to : ∀ b, vo.ownBlock = some b → b0 ≤ b ∧ b < w.heap.size := World.ownsRow.lt ho.c
  have key : ∀ u v : Value, (∀ b d, u.ownBlock = some b → v.ownBlock = some d → b ≠ d) → u.ownBlock = none ∨ u.ownBlock ≠ v.ownBlock := by
    intro u v h
    cases hu : u.ownBlock with
    | none => exact .inl rfl
    | some b => exact .inr fun e => h b b hu e.symm rfl
  refine ⟨fun i hi => ?_, fun i hi => ?_, fun i hi => ?_, fun i hi => ?_, fun i j hi hj hne => ?_, fun i hi => ?_, fun i hi => ?_, fun i hi => ?_, fun i hi => ?_, ?_⟩
  · rcases thr i hi with rfl | rfl | rfl <;> simp [tri17]
  · rcases thr i hi with rfl | rfl | rfl
    · exact hc'.c
    · exact hx'.c
    · exact ho'.c
  · rcases thr i hi with rfl | rfl | rfl
    · exact hc'.o
    · exact hx'.o
    · exact ho'.o
  · rcases thr i hi with rfl | rfl | rfl
    · exact hc.i
    · exact hx.i
    · exact ho.i
  · rcases thr i hi with rfl | rfl | rfl <;> rcases thr j hj with rfl | rfl | rfl <;> first | exact absurd rfl hne | skip
    all_goals
      refine key _ _ fun b d hb hd e => ?_
      simp only [tri17] at hb hd
    · have := lc.1 b hb; have := tx d hd; omega
    · have := tc b hb; have := lo.1 d hd; omega
    · have := tx b hb; have := lc.1 d hd; omega
    · have := tx b hb; have := lo.1 d hd; omega
    · have := lo.1 b hb; have := tc d hd; omega
    · have := lo.1 b hb; have := tx d hd; omega
  · intro e
    rcases thr i hi with rfl | rfl | rfl
    · have := tc _ e; omega
    · have := tx _ e; omega
    · have := to _ e; omega
  · rcases thr i hi with rfl | rfl | rfl
    · exact hc.len
    · exact hx.len
    · exact ho.len
  · rcases thr i hi with rfl | rfl | rfl
    · exact hc.ops
    · exact hx.ops
    · exact ho.ops
  · rcases thr i hi with rfl | rfl | rfl
    · exact hc.fit
    · exact hx.fit
    · exact ho.fit
  · have e : (List.range 3).flatMap (tri17 rc rx ro) = (rc ++ rx) ++ ro := by simp [List.range_succ, tri17]
    rw [e]
    refine ap_comm (ap_app (s := s1) ho.ap (ap_app (s := s2) hc.ap hx.ap lc.2 fun c h b e => (World.ownsRow.lt (hx.o c h) b e).1) lo.2 fun c h b e => ?_)
    rcases List.mem_append.1 h with h | h
    · exact (World.ownsRow.lt (hc.o c h) b e).1
    · have := (World.ownsRow.lt (hx.o c h) b e).1
      omega

end Go.Proofs.Ytfnaeblbodfekaa

/- LentMessage: the lists of ops lie apart; four lists of commits, apart. -/
namespace Go.Proofs.Ytfnaeblbodfekaa
open Go.RowKit
set_option linter.unusedVariables false

set_option maxRecDepth 100000 in
set_option maxHeartbeats 4000000 in
theorem lentM_ap (m : Mw) (w : World) (hi : IsM w m) (hf : FitM m) (hs : m.ss.length ≤ 1000) (hc : m.cs.length ≤ 1000) :
    Calls Try.prog 14 #[mv m] w fun E w' => ∃ g c h d rs, E = .returned (mv (lentOf m g c h d rs)) ∧ Hid (LentM w.heap.size w' m g c h d rs ∧ ApC rs ∧ Below w.heap.size w w') := by
  obtain ⟨ao, cap, hvs, _, _⟩ := hi.s.shape
  obtain ⟨ao2, cap2, hvc, _, _⟩ := hi.c.1.shape
  rw [mv_eq hvs hvc]
  obtain ⟨w1, hw1, sz1, bel1, hA⟩ := newm' w m hvs hvc
  obtain ⟨w2, hw2, sz2, bel2, hR⟩ := blk_step w1 #[.int .i64 0, .int .i64 0, .int .u8 0, .int .i64 0, .slice none 0 0, .int .i64 0, .int .i64 0, .slice none 0 0] 30
  rw [sz1] at hR
  have hB2 : w2.heap[w.heap.size]? = some (.cells #[.int .i64 m.k, .int .i64 m.e, .int .u8 m.r, .int .i64 m.n, .slice ao m.ss.length cap, .int .i64 m.f, .int .i64 m.p, .slice ao2 m.cs.length cap2] 30 (0, 0)) := by
    have := hA.below bel2
    unfold MAt at this
    rw [mc_eq hvs hvc] at this
    exact this
  have bel02 : Below w.heap.size w w2 := bel1.trans (bel2.mono (by omega))
  have hi2 := hi.below bel02
  have HS := hide (hvs ▸ hi2.s)
  have HI := hide (hvc ▸ hi.c)
  have HF := hide hf
  have HB := hide hB2
  have HR := hide hR
  obtain ⟨c0, c1, c2, c3, c4, c5, c6, c7⟩ := ei_of hB2
  clear hA hB2 hR bel1 bel2 hi2 hi hf hvs hvc
  go_enter Try.func14, Try.ntmps14
  go_wp2_with fail
  go_region_with (go_at_call 31; refine (lentS_any _ m.ss _ (HS.out.below (below_drewN (Below.refl _ _) 1)) (by omega)).mono ?_; rintro E w3 ⟨v3, rfl, own3, bel3'⟩; have bel3 : Below w2.heap.size w2 w3 := ((Below.refl _ _).drew).trans bel3'; have sz3 := bel3.size; have hB3 := (bel3.block w.heap.size (by omega)).trans HB.out; have hR3 := (bel3.block (w.heap.size + 1) (by omega)).trans HR.out; obtain ⟨a0, a1, a2, a3, a4, a5, a6, a7⟩ := ei_of hB3; obtain ⟨gs, cs1, hv3, hcc, own3'⟩ := lentS_of own3; subst hv3; have hfr := run_frontS (some ⟨gs, 0, none⟩) (m.ss.length + 3) cs1 m.ss.length (by omega) (by simp); obtain ⟨V, hV, bV, gV, fV⟩ := putAt hB3 4 (.slice (some ⟨gs, 0, none⟩) m.ss.length cs1); have szV := gV.size; have HBV : Hid (V.heap[w.heap.size]? = some (.cells #[.int .i64 m.k, .int .i64 m.e, .int .u8 m.r, .int .i64 m.n, .slice (some ⟨gs, 0, none⟩) m.ss.length cs1, .int .i64 m.f, .int .i64 m.p, .slice ao2 m.cs.length cap2] 30 (0, 0))) := hide bV; have HRV := hide ((gV.block (w.heap.size + 1) (by omega) (by simp)).trans hR3); have OS := hide (row_rebase (base' := w2.heap.size) (row_out own3' (F := fun i => i = w.heap.size) (Out.of_grown gV (fun i hi => by simpa using hi.symm)) (fun i hi => by rw [hi]; show _ < w2.drew.heap.size; simp; omega)) (by show _ ≤ w2.drew.heap.size; simp)); have belV : Below w.heap.size w V := below_put (bel02.trans (bel3.mono (by omega))) gV (Nat.le_refl _) (by omega); obtain ⟨b0, b1, b2, b3, b4, b5, b6, b7⟩ := ei_of HBV.out; clear bel3' hB3 hR3 own3 own3' bV)
  all_goals
    clear hfr a0 a1 a2 a3 a4 a5 a6 a7 c0 c1 c2 c3 c4 c5 c6 c7 hV fV hw1 hw2
    go_wp2_with fail
    go_region_with (go_at_call 13; refine (lentCs_ap _ m.cs _ ((HI.out.below belV).drewN 1) HF.out.fc hc).mono ?_; rintro E w5 ⟨v5, rs, rfl, own5, he5, hl5, hap5, bel5'⟩; have bel5 : Below V.heap.size V w5 := ((Below.refl _ _).drew).trans bel5'; have sz5 := bel5.size; have hB5 := (bel5.block w.heap.size (by omega)).trans HBV.out; have hR5 := (bel5.block (w.heap.size + 1) (by omega)).trans HRV.out; obtain ⟨a0, a1, a2, a3, a4, a5, a6, a7⟩ := ei_of hB5; obtain ⟨gc, cc1, hv5, hcc5, own5'⟩ := lentC_of (cvs_len he5) own5; subst hv5; have hfr := run_frontC gc 0 (m.cs.length + 3) cc1 m.cs.length (by omega); obtain ⟨Z, hZ, bZ, gZ, fZ⟩ := putAt hB5 7 (.slice (some ⟨gc, 0, none⟩) m.cs.length cc1); have szZ := gZ.size; have HBZ : Hid (Z.heap[w.heap.size]? = some (.cells #[.int .i64 m.k, .int .i64 m.e, .int .u8 m.r, .int .i64 m.n, .slice (some ⟨gs, 0, none⟩) m.ss.length cs1, .int .i64 m.f, .int .i64 m.p, .slice (some ⟨gc, 0, none⟩) m.cs.length cc1] 30 (0, 0))) := hide bZ; have hRZ := (gZ.block (w.heap.size + 1) (by omega) (by simp)).trans hR5; obtain ⟨e0, e1, e2, e3, e4, e5, e6, e7⟩ := ei_of HBZ.out; obtain ⟨Y, hY, bY, gY, ⟨d0, d1, d2, d3, d4, d5, d6, d7⟩, fr, ⟨y0, y1, y2, y3, y4, y5, y6, y7⟩⟩ := put8 hRZ (.int .i64 m.k) (.int .i64 m.e) (.int .u8 m.r) (.int .i64 m.n) (.slice (some ⟨gs, 0, none⟩) m.ss.length cs1) (.int .i64 m.f) (.int .i64 m.p) (.slice (some ⟨gc, 0, none⟩) m.cs.length cc1); have f0 := fr 0; have f1 := fr 1; have f2 := fr 2; have f3 := fr 3; have f4 := fr 4; have f5 := fr 5; have f6 := fr 6; have f7 := fr 7; have belY : Below w.heap.size w Y := below_put (below_put (belV.trans (bel5.mono (by omega))) gZ (Nat.le_refl _) (by omega)) gY (by omega) (by omega); have oZ : Out (fun i => i = w.heap.size) w5 Z := Out.of_grown gZ (fun i hi => by simpa using hi.symm); have oY : Out (fun i => i = w.heap.size + 1) Z Y := Out.of_grown gY (fun i hi => by simpa using hi.symm); have HL : Hid (LentM w.heap.size Y m gs cs1 gc cc1 rs) := hide ⟨hcc, hcc5, row_rebase (row_out (row_out (row_below OS.out bel5) oZ (fun i hi => by omega)) oY (fun i hi => by omega)) (by omega), row_rebase (row_out (row_out own5' oZ (fun i hi => by rw [hi]; show _ < V.drew.heap.size; simp; omega)) oY (fun i hi => by rw [hi]; show _ < V.drew.heap.size; simp; omega)) (by show _ ≤ V.drew.heap.size; simp; omega), he5, ((hl5.out' oZ (fun i hi => by rw [hi]; show _ < V.drew.heap.size; simp; omega)).out' oY (fun i hi => by rw [hi]; show _ < V.drew.heap.size; simp; omega)).reb (by show _ ≤ V.drew.heap.size; simp; omega)⟩; clear bel5' hB5 hR5 own5 own5' bZ hl5 bY oZ oY fr hRZ)
  all_goals
    go_wp2
    refine bodyPost_ret (v := .agg #[.int .i64 m.k, .int .i64 m.e, .int .u8 m.r, .int .i64 m.n, .slice (some ⟨gs, 0, none⟩) m.ss.length cs1, .int .i64 m.f, .int .i64 m.p, .slice (some ⟨gc, 0, none⟩) m.cs.length cc1]) (by simp [results, Try.results14, go_sem, y0, y1, y2, y3, y4, y5, y6, y7]) rfl ?_
    exact ⟨gs, cs1, gc, cc1, rs, by rw [lent_mv], hide ⟨HL.out, hap5, belY⟩⟩

def quad18 {α : Type} (a b c d : α) : Nat → α
  | 0 => a
  | 1 => b
  | 2 => c
  | _ => d

theorem Oc.Lt.mono {v : Value} {r : List Cw} {s t : Nat} (h : Oc.Lt v r s) (hst : s ≤ t) : Oc.Lt v r t := ⟨fun b hb => Nat.lt_of_lt_of_le (h.1 b hb) hst, fun c hc b hb => Nat.lt_of_lt_of_le (h.2 c hc b hb) hst⟩

/-- Four lists of commits, made one behind the other: o, l, c, x; they lie in the row as c, x, o, l. -/
theorem listsC_quad {b0 s0 s1 s2 : Nat} {w : World} {vc vx vo vl : Value} {rc rx ro rl : List Cw} (hc : Oc s1 w vc rc) (hx : Oc s2 w vx rx) (ho : Oc b0 w vo ro) (hl : Oc s0 w vl rl) (h00 : b0 ≤ s0) (h01 : s0 ≤ s1) (h12 : s1 ≤ s2) (lo : Oc.Lt vo ro s0) (ll : Oc.Lt vl rl s1) (lc : Oc.Lt vc rc s2) :
    ListsC 4 w.heap.size b0 (w.alloc (.cells #[vc, vx, vo, vl] 22)) (quad18 vc vx vo vl) (quad18 rc rx ro rl) := by
  have bel : Below w.heap.size w (w.alloc (.cells #[vc, vx, vo, vl] 22)) := (Below.refl _ _).alloc (Nat.le_refl _) _
  have hc' := (hc.below bel).rebase (Nat.le_trans h00 h01)
  have hx' := (hx.below bel).rebase (Nat.le_trans h00 (Nat.le_trans h01 h12))
  have ho' := ho.below bel
  have hl' := (hl.below bel).rebase h00
  have thr : ∀ i, i < 4 → i = 0 ∨ i = 1 ∨ i = 2 ∨ i = 3 := by omega
  have tc : ∀ b, vc.ownBlock = some b → s1 ≤ b ∧ b < w.heap.size := World.ownsRow.lt hc.c
  have tx : ∀ b, vx.ownBlock = some b → s2 ≤ b ∧ b < w.heap.size := World.ownsRow.lt hx.c
  have to : ∀ b, vo.ownBlock = some b → b0 ≤ b ∧ b < w.heap.size := World.ownsRow.lt ho.c
  have tl : ∀ b, vl.ownBlock = some b → s0 ≤ b ∧ b < w.heap.size := World.ownsRow.lt hl.c
  have key : ∀ u v : Value, (∀ b d, u.ownBlock = some b → v.ownBlock = some d → b ≠ d) → u.ownBlock = none ∨ u.ownBlock ≠ v.ownBlock := by
    intro u v h
    cases hu : u.ownBlock with
    | none => exact .inl rfl
    | some b => exact .inr fun e => h b b hu e.symm rfl
  refine ⟨fun i hi => ?_, fun i hi => ?_, fun i hi => ?_, fun i hi => ?_, fun i j hi hj hne => ?_, fun i hi => ?_, fun i hi => ?_, fun i hi => ?_, fun i hi => ?_, ?_⟩
  · rcases thr i hi with rfl | rfl | rfl | rfl <;> simp [quad18]
  · rcases thr i hi with rfl | rfl | rfl | rfl
    · exact hc'.c
    · exact hx'.c
    · exact ho'.c
    · exact hl'.c
  · rcases thr i hi with rfl | rfl | rfl | rfl
    · exact hc'.o
    · exact hx'.o
    · exact ho'.o
    · exact hl'.o
  · rcases thr i hi with rfl | rfl | rfl | rfl
    · exact hc.i
    · exact hx.i
    · exact ho.i
    · exact hl.i
  · rcases thr i hi with rfl | rfl | rfl | rfl <;> rcases thr j hj with rfl | rfl | rfl | rfl <;> first | exact absurd rfl hne | skip
    all_goals
      refine key _ _ fun b d hb hd e => ?_
      simp only [quad18] at hb hd
      subst e
      have q1 := lc.1 b
      have q2 := ll.1 b
      have q3 := lo.1 b
      have q4 := tc b
      have q5 := tx b
      have q6 := to b
      have q7 := tl b
      simp only [hb, hd, forall_const] at q1 q2 q3 q4 q5 q6 q7
      omega
  · intro e
    rcases thr i hi with rfl | rfl | rfl | rfl
    · have := tc _ e; omega
    · have := tx _ e; omega
    · have := to _ e; omega
    · have := tl _ e; omega
  · rcases thr i hi with rfl | rfl | rfl | rfl
    · exact hc.len
    · exact hx.len
    · exact ho.len
    · exact hl.len
  · rcases thr i hi with rfl | rfl | rfl | rfl
    · exact hc.ops
    · exact hx.ops
    · exact ho.ops
    · exact hl.ops
  · rcases thr i hi with rfl | rfl | rfl | rfl
    · exact hc.fit
    · exact hx.fit
    · exact ho.fit
    · exact hl.fit
  · have e : (List.range 4).flatMap (quad18 rc rx ro rl) = (rc ++ rx) ++ (ro ++ rl) := by simp [List.range_succ, quad18]
    rw [e]
    refine ap_comm (ap_app (s := s1) (ap_app (s := s0) ho.ap hl.ap lo.2 fun c h b e => (World.ownsRow.lt (hl.o c h) b e).1) (ap_app (s := s2) hc.ap hx.ap lc.2 fun c h b e => (World.ownsRow.lt (hx.o c h) b e).1) (fun c h b e => ?_) fun c h b e => ?_)
    · rcases List.mem_append.1 h with h | h
      · have := lo.2 c h b e
        omega
      · exact ll.2 c h b e
    · rcases List.mem_append.1 h with h | h
      · exact (World.ownsRow.lt (hc.o c h) b e).1
      · have := (World.ownsRow.lt (hx.o c h) b e).1
        omega

end Go.Proofs.Ytfnaeblbodfekaa
