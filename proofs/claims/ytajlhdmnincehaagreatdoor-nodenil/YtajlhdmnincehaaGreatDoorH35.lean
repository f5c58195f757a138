/- Texts of one layer, one behind the other. -/
import Derived.Test.YtajlhdmnincehaaGreatDoorH31
import Derived.Test.YtajlhdmnincehaaGreatDoorM4
import Derived.Test.YtajlhdmnincehaaGreatDoorH10
import Derived.Test.YtajlhdmnincehaaGreatDoorH34
import Derived.Test.YtajlhdmnincehaaGreatDoorH36
/- A primary that nothing disturbs (layer 23). -/
namespace Go.Proofs.YtajlhdmnincehaaGreatDoor
open Go.RowKit
set_option linter.unusedVariables false

/-- A primary of epoch e on a calm disk, its size in calls; pa: what its page says is acked. -/
structure Prm (m : Nat) (x : Ns) (e pa : Int) : Prop where
  inn : ∃ z ps, Rst.In z x.s ps []
  has : x.s.d.has = false
  rz : Rz m x.s
  pg : x.s.p = ⟨e, 1, pa, 0, 0, 0⟩
  e : 1 ≤ e ∧ e ≤ 1048576
  t : 1 ≤ x.t ∧ x.t ≤ 16
  a : 0 ≤ pa ∧ pa ≤ x.a ∧ x.a ≤ x.s.l.length
  r : Cm.lastN 0 x.s.r ≤ x.a

section
variable {m : Nat} {x : Ns} {e pa : Int} {l : List Bm.Ov}

theorem Prm.on (h : Prm m x e pa) : x.s.d.on = true := by
  obtain ⟨z, ps, k⟩ := h.inn
  exact k.on
theorem Prm.rok (h : Prm m x e pa) (hm : m ≤ 500) : Rok x.s := ⟨h.rz.1.mono (by omega) (by omega), by have := h.rz.2.1; omega⟩
theorem Prm.t3 (h : Prm m x e pa) : T3 x.s.d := h.rz.2.2
theorem Prm.ok (h : Prm m x e pa) (hm : m ≤ 500) : Pm.chk x.s.p = 0 := by
  rw [h.pg]
  have h1 := h.e
  have h2 := h.a
  have h3 := h.rz.2.1
  exact Pm.chk_iff.2 ⟨⟨h1.1, h1.2, h2.1, by show pa ≤ _; omega, by simp, by simp, by simp, by simp⟩, .inl ⟨rfl, rfl, rfl, rfl⟩⟩
theorem Prm.rd (h : Prm m x e pa) (hm : m ≤ 500) : Rol.rdE x.s.p = 0 := by
  unfold Rol.rdE
  rw [if_pos (h.ok hm), h.pg]
  rfl
theorem Prm.wr (h : Prm m x e pa) (hm : m ≤ 500) : Rol.wrE x.s.p = 0 := by
  unfold Rol.wrE
  rw [if_pos (h.ok hm), h.pg]
  rfl
theorem Prm.i64 (h : Prm m x e pa) : In64 x.s.p.e := by
  rw [h.pg]
  have := h.e
  simp only [In64]
  omega
theorem Prm.out (h : Prm m x e pa) (hm : m ≤ 500) : Lea.oV x.s.l.length x.a = x.s.l.length - x.a := by
  have h2 := h.a
  have h3 := h.rz.2.1
  unfold Lea.oV
  rw [if_pos (by omega)]

/-- What bars a commit. -/
theorem Prm.bar (h : Prm m x e pa) (hm : m ≤ 500) : x.bar l = if Bm.chkL l ≠ 0 then Bm.chkL l else if x.t ≤ x.s.l.length - x.a then 8 else 0 := by
  have h2 := h.a
  have h3 := h.rz.2.1
  unfold Ns.bar
  split
  · rfl
  · rw [if_neg (by rw [h.wr hm]; simp)]
    unfold Lea.ad
    rw [if_pos h.t, if_pos (by omega)]
    split
    · rfl
    · rw [if_neg (by omega)]

theorem Prm.no (h : Prm m x e pa) (hm : m ≤ 500) (hb : x.bar l ≠ 0) : x.coE l = x.bar l ∧ x.co l = x := by
  unfold Ns.coE Ns.co
  rw [if_pos hb, if_pos hb]
  exact ⟨rfl, rfl⟩

/-- A commit that is taken. -/
theorem Prm.yes (h : Prm m x e pa) (hm : m ≤ 500) (hb : x.bar l = 0) :
    x.coE l = 0 ∧ Prm (m + 1) (x.co l) e pa ∧ (x.co l).s.l = x.s.l ++ [⟨e, x.s.l.length + 1, l⟩] ∧ (x.co l).a = x.a ∧ (x.co l).t = x.t ∧ (x.co l).k = x.k ∧ (x.co l).s.r = x.s.r ∧ Sto.fold (Rst.sto (x.co l).s) = Tm.app (Sto.fold (Rst.sto x.s)) l := by
  obtain ⟨z, ps, k⟩ := h.inn
  have h2 := h.a
  have h3 := h.rz.2.1
  have he := h.e
  have hc : Bm.chkL l = 0 := by
    have := h.bar (l := l) hm
    rw [hb] at this
    split at this
    · rename_i g; exact absurd this.symm g
    · rename_i g; exact Classical.not_not.1 g
  have ec : x.com l = ⟨e, x.s.l.length + 1, l⟩ := by unfold Ns.com; rw [h.pg]
  have sd := Rst.snd_iff.1 k.sd
  have le : Cm.lastE 0 x.s.l ≤ e := by have := sd.1.2.1; rw [h.pg] at this; exact this
  have hg : Cm.Good (Cm.lastE 0 x.s.l) x.s.l.length [⟨e, x.s.l.length + 1, l⟩] := ⟨by show Cm.chk e ((x.s.l.length : Int) + 1) l = 0; rw [Cm.chk_in ⟨he.1, he.2, by omega, by omega⟩, hc], by show (x.s.l.length : Int) + 1 - 1 = _; omega, le, trivial⟩
  obtain ⟨e1, e2, e3, e4, e5, e6⟩ := Rst.add_go k h.has (cs := [⟨e, x.s.l.length + 1, l⟩]) ((Cm.fol_good _ _ _ 0).2 hg) (by
    rw [h.pg]
    refine Rst.snd_plain ?_ ?_ (by simp) ?_ rfl
    · have := h.r; rw [List.length_append]; omega
    · rw [(Cm.last_snoc _ _ _ 0).1]; exact Int.le_refl _
    · show pa ≤ _; rw [List.length_append]; omega)
  have hf := Rst.fold_add k (c := ⟨e, x.s.l.length + 1, l⟩) e1
  unfold Ns.coE Ns.co
  rw [if_neg (by rw [hb]; simp), if_neg (by rw [hb]; simp), ec]
  refine ⟨e1, ⟨⟨z, ps, e2⟩, e6, rz_add h.rz _ (by simp), e3.trans h.pg, he, h.t, ?_, ?_⟩, e4, rfl, rfl, rfl, e5, hf⟩
  · show 0 ≤ pa ∧ pa ≤ x.a ∧ x.a ≤ (Rst.add x.s _).2.l.length
    rw [e4, List.length_append]
    omega
  · show Cm.lastN 0 (Rst.add x.s _).2.r ≤ x.a
    rw [e5]
    exact h.r
end

theorem prm_new (t : Int) (ht : 1 ≤ t ∧ t ≤ 16) : Prm 1 (Ns.one 0 t (new23 0)) 1 0 :=
  ⟨⟨fst 0, [], Rst.in_new _ (by decide)⟩, rfl, ⟨big_new.mono (by decide) (by decide), Nat.zero_le _, t3_new⟩, rfl, by decide, ht, show (0 : Int) ≤ 0 ∧ (0 : Int) ≤ 0 ∧ (0 : Int) ≤ ((0 : Nat) : Int) by omega, show (0 : Int) ≤ 0 by omega⟩

end Go.Proofs.YtajlhdmnincehaaGreatDoor

/- The program's node (layer 23): Commit, as it is called. -/
namespace Go.Proofs.YtajlhdmnincehaaGreatDoor
open Go.RowKit
set_option linter.unusedVariables false

set_option maxHeartbeats 2000000 in
theorem nCommit_any (n p q : Nat) (F : Nat → Prop) (w : World) (x : Ns) (h : Nd n p q F w x) (hR : Rok x.s) (h3 : T3 x.s.d) (h0 : ¬ F 0) (hon : x.s.d.on = true) (v : Value) (l : List Bm.Ov) (hv : ∀ W, Out F w W → IsO W v l) (hf : FitO l) (hl : l.length * 40 ≤ 140737488351232) (he : In64 x.s.p.e) (h6 : x.coE l ≠ 6) :
    Calls Tryz.prog 4 #[.pointer (some ⟨n, 0, none⟩), v] w fun E w' => E = .returned (.tuple #[.int .i64 (if x.coE l = 0 then x.s.l.length + 1 else 0), .int .i64 (x.coE l)]) ∧ NdS n p q F w w' (x.co l) := by
  have hmf : ∀ (fn : Fn) (first cap : Array Value) (w : World), (Instr.makeFunc fn first cap).run Tryz.prog w = .ok (.func fn first cap) w := fun _ _ _ _ => rfl
  obtain ⟨va, vn, vk, rfl⟩ : ∃ a n k, v = .slice a n k := by
    obtain ⟨a, k, e, _, _⟩ := (hv w (Out.refl _ _)).shape
    exact ⟨_, _, _, e⟩
  obtain ⟨w1, hw1, s1, b1, P1⟩ := blk_step w #[.pointer (some ⟨n, 0, none⟩)] 31
  obtain ⟨w2, hw2, s2, b2, P2⟩ := blk_step w1 #[.slice va vn vk] 22
  obtain ⟨w3, hw3, s3, b3, P3⟩ := blk_step w2 #[.int .i64 0] 3
  rw [s1] at P2
  rw [s2, s1] at P3
  have b03 : Below w.heap.size w w3 := (b1.trans (b2.mono (by omega))).trans (b3.mono (by omega))
  have P1 := (b3.block _ (by omega)).trans ((b2.block _ (by omega)).trans P1)
  have P2 := (b3.block _ (by omega)).trans P2
  have lt := h.lt
  have hw0 := h.st.mst.pos
  obtain ⟨ce, hce⟩ : ∃ z, x.coE l = z := ⟨_, rfl⟩
  obtain ⟨cn, hcn⟩ : ∃ z, (if ce = 0 then (x.s.l.length : Int) + 1 else 0) = z := ⟨_, rfl⟩
  obtain ⟨cx, hcx⟩ : ∃ z, x.co l = z := ⟨_, rfl⟩
  have CC := fun W hW => ncommit_any n p q F W x (h.below hW) hR h3 h0 (.slice va vn vk) l (fun V hV => hv V ((Out.of_below hW).trans hV fun g e => .inl e)) hf hl he
  rw [hce, hcn, hcx] at CC
  rw [hce] at h6
  rw [hce, hcn, hcx]
  have h6' : (ce == 6) = false := by simpa using h6
  have CL := ncall_any n p q F w3 x (h.below b03) hon 22 #[] #[.pointer (some ⟨w.heap.size, 0, none⟩), .pointer (some ⟨w.heap.size + 1, 0, none⟩), .pointer (some ⟨w.heap.size + 1 + 1, 0, none⟩)] _ (enters_of Tryz.func22 (by kernel_rfl) rfl) rfl (fun e W w' => e = ce ∧ w'.heap[w.heap.size + 1 + 1]? = some (.cells #[.int .i64 cn] 3 (0, 0)) ∧ NdQ n p q F w W w' cx) (fun W hW => by
    have q1 := (hW.block _ (by omega)).trans P1
    have q2 := (hW.block _ (by omega)).trans P2
    have q3 := (hW.block _ (by omega)).trans P3
    have d1 : W.cell? ⟨w.heap.size, 0, none⟩ = some (.pointer (some ⟨n, 0, none⟩)) := blk_cell q1 0 rfl
    have d2 : W.cell? ⟨w.heap.size + 1, 0, none⟩ = some (.slice va vn vk) := blk_cell q2 0 rfl
    have b0W := b03.trans (hW.mono (by omega))
    have zW := hW.size
    have C1 := hide (CC W b0W)
    have FIN : Hid (∀ W4, NdS n p q F W W4 cx → ∃ V, W4.setCell ⟨w.heap.size + 1 + 1, 0, none⟩ (.int .i64 cn) = V ∧ W4.cell? ⟨w.heap.size + 1 + 1, 0, none⟩ = some (.int .i64 0) ∧ W4.frozen? ⟨w.heap.size + 1 + 1, 0, none⟩ = false ∧ Hid (∃ e, Ending.returned (.int .i64 ce) = .returned (.int .i64 e) ∧ (e == 6) = false ∧ (∀ g, w3.heap.size ≤ g → g < W.heap.size → V.heap[g]? = W.heap[g]?) ∧ W.heap.size ≤ V.heap.size ∧ e = ce ∧ V.heap[w.heap.size + 1 + 1]? = some (.cells #[.int .i64 cn] 3 (0, 0)) ∧ NdQ n p q F w W V cx)) := hide fun W4 k => by
      have k0 := k
      obtain ⟨F', N', o', f'⟩ := k0
      have nl : ∀ g, w.heap.size ≤ g → ¬ (F g ∨ g = n) := fun g hg e => by have := lt g e; omega
      have q4 := (o'.block _ (by omega) (nl _ (by omega))).trans q3
      obtain ⟨V, hV, bV, gV, fV⟩ := put_c q4 0 (.int .i64 cn)
      refine ⟨V, hV, blk_cell q4 0 rfl, fV, hide ⟨ce, rfl, h6', fun g g1 g2 => ?_, Nat.le_trans o'.size gV.size, rfl, bV, (k.toQ b0W).put lt hw0 ⟨by omega, by omega⟩ gV⟩⟩
      rw [gV.block g (Nat.lt_of_lt_of_le g2 o'.size) (fun e => by have := Option.some.inj e; omega)]
      exact o'.block g g2 (nl g (by omega))
    clear q1 q2 q3 b0W zW
    clear CC P1 P2 P3 b1 b2 b3 b03 s1 s2 s3 hw1 hw2 hw3 h hR h3 h0 hon hv hf hl he h6 hce hcn hcx lt hw0 hW
    go_enter Tryz.func22, Tryz.ntmps22
    go_wp2_with fail
    refine C1.out.mono ?_
    rintro E W4 ⟨rfl, k⟩
    obtain ⟨V, hV, e4, f4, RR⟩ := FIN.out W4 k
    clear C1 FIN k
    go_wp2
    go_ret
    exact RR.out)
  have CL := hide CL
  have FIN : Hid (∀ W W1 B w4, Below w3.heap.size w3 W → w3.heap.size ≤ B ∧ B < W.heap.size → W1.grownBy w4 (some B) → W1.heap[w.heap.size + 1 + 1]? = some (.cells #[.int .i64 cn] 3 (0, 0)) → NdQ n p q F w W W1 cx → w4.heap[w.heap.size + 1 + 1]? = some (.cells #[.int .i64 cn] 3 (0, 0)) ∧ NdS n p q F w w4 cx) := hide fun W W1 B w4 hW hB g c k => by
    have zW := hW.size
    have k0 := k
    obtain ⟨F', N', o', f'⟩ := k0
    exact ⟨(g.block _ (blk_lt c) (fun e => by have := Option.some.inj e; omega)).trans c, (k.put lt hw0 ⟨by omega, hB.2⟩ g).toS (by omega)⟩
  clear CC P2 P3 b1 b2 b3 b03 s3 h hR h3 h0 hon hv hf hl he h6 hce hcn hcx lt hw0
  have d1 : w3.cell? ⟨w.heap.size, 0, none⟩ = some (.pointer (some ⟨n, 0, none⟩)) := blk_cell P1 0 rfl
  clear P1
  go_enter Tryz.func4, Tryz.ntmps4
  go_wp2_with fail
  refine CL.out.mono ?_
  rintro E w4 ⟨e, rfl, W, W1, B, hW, hB, g, rfl, c, k⟩
  obtain ⟨q4, N4⟩ := FIN.out W W1 B w4 hW hB g c k
  have RR := hide N4
  have e4 : w4.cell? ⟨w.heap.size + 1 + 1, 0, none⟩ = some (.int .i64 cn) := blk_cell q4 0 rfl
  have f4 := blk_froz q4 0
  have u4 : w4.setCell ⟨w.heap.size + 1 + 1, 0, none⟩ (.int .i64 cn) = w4 := set_same q4 (j := 0) rfl
  clear CL FIN hW hB g c k q4 N4
  go_wp2
  refine bodyPost_ret (v := .tuple #[.int .i64 cn, .int .i64 e]) (by simp [results, Tryz.results4, go_sem, e4]) rfl ?_
  exact ⟨rfl, RR.out⟩

end Go.Proofs.YtajlhdmnincehaaGreatDoor

/- The statements of layer 23: a node of a statement's own; the chapter's first examples. -/
namespace Go.Proofs.YtajlhdmnincehaaGreatDoor
open Go.RowKit
set_option linter.unusedVariables false

/-- A node of a statement's own: its blocks are new. -/
structure Nl (w0 w : World) (n p q : Nat) (F : Nat → Prop) (x : Ns) : Prop where
  nd : Nd n p q F w x
  new : ∀ g, F g ∨ g = n → w0.heap.size ≤ g ∧ 0 < g
  bel : Below w0.heap.size w0 w

section
variable {w0 w w' : World} {n p q m : Nat} {F : Nat → Prop} {x y : Ns} {e pa : Int}

theorem Nl.below (h : Nl w0 w n p q F x) (hb : Below w.heap.size w w') : Nl w0 w' n p q F x := ⟨h.nd.below hb, h.new, h.bel.trans (hb.mono h.bel.size)⟩
theorem Nl.step (h : Nl w0 w n p q F x) (k : NdS n p q F w w' y) : ∃ F', Nl w0 w' n p q F' y := by
  obtain ⟨F', k1, k2, k3⟩ := k
  have hs := h.bel.size
  refine ⟨F', k1, fun g hg => ?_, h.bel.trans (k2.below (fun g hg => (h.new g hg).1) hs)⟩
  rcases hg with e | e
  · rcases k3 g e with e | e
    · exact h.new g (.inl e)
    · have := h.nd.st.mst.pos
      omega
  · exact h.new g (.inr e)
theorem Nl.n0 (h : Nl w0 w n p q F x) : ¬ F 0 := fun e => by have := (h.new 0 (.inl e)).2; omega

/-- A commit of one op that was made for it. -/
theorem nl_commit (h : Nl w0 w n p q F x) (hp : Prm m x e pa) (hm : m ≤ 500) (o : Bm.Ov) (ho : FitO [o]) :
    ∃ V, w.alloc (.cells #[.bool o.p, .string o.k, .string o.v] 88) = V ∧ Hid (Calls Tryz.prog 4 #[.pointer (some ⟨n, 0, none⟩), .slice (some ⟨w.heap.size, 0, none⟩) 1 1] V fun E w' => E = .returned (.tuple #[.int .i64 (if x.coE [o] = 0 then x.s.l.length + 1 else 0), .int .i64 (x.coE [o])]) ∧ NdS n p q F w w' (x.co [o])) := by
  obtain ⟨V, hV, szV, belV, ownV⟩ := ops_step 88 w #[.bool o.p, .string o.k, .string o.v] 1 [o] rfl rfl (by simp [maxLen])
  refine ⟨V, hV, hide ?_⟩
  have hl := h.below belV
  have h6 : x.coE [o] ≠ 6 := by
    by_cases hb : x.bar [o] = 0
    · rw [(hp.yes hm hb).1]; simp
    · rw [(hp.no hm hb).1, hp.bar hm]
      rcases Bm.chkL_four [o] with g | g | g <;> rw [g] <;> simp
      split <;> simp
  refine (nCommit_any n p q F V x hl.nd (hp.rok hm) hp.t3 h.n0 hp.on _ [o] (fun W hW => ?_) ho (by simp) hp.i64 h6).mono ?_
  · have k : OwnO 88 w.heap.size W (.slice (some ⟨w.heap.size, 0, none⟩) 1 1) [o] := row_agree ownV fun g hg => hW.block g (World.ownsRow.lt ownV g hg).2 fun e => by
      have a1 := (World.ownsRow.lt ownV g hg).1
      have a2 := h.nd.lt g (.inl e)
      omega
    exact k.is
  · rintro E w' ⟨rfl, k⟩
    exact ⟨rfl, k.ahead belV⟩

/-- A new node of a statement's own. -/
theorem nl_new (u t : Int) (hu : u = 0 ∨ u = 1) (ht : 1 ≤ t ∧ t ≤ 16) (hm : Mst w0) (w1 : World) (hq : w0.heap.size ≤ q) (h : Pk q (fun g => g = q) w1 Dm.new) (hb : Below w0.heap.size w0 w1) :
    Calls Tryz.prog 19 #[.int .i64 u, .int .i64 t, .pointer (some ⟨q, 0, none⟩)] w1 fun E w' => ∃ n p F, E = .returned (.tuple #[.pointer (some ⟨n, 0, none⟩), .int .i64 0]) ∧ Hid (Nl w0 w' n p q F (Ns.one u t (new23 u))) := by
  have p0 := hm.pos
  refine (nnew_any u t hu ht q w1 h (hm.below hb) (by omega)).mono ?_
  rintro E w' ⟨n, p, F, rfl, X⟩
  obtain ⟨k1, k2, k3⟩ := X.out
  have hs := hb.size
  refine ⟨n, p, F, rfl, hide ⟨k1, fun g hg => ?_, hb.trans (k3.below (fun g e => by omega) hs)⟩⟩
  rcases k2 g hg with e | e <;> omega
end

theorem put23_any (k v : ByteArray) (w : World) :
    Calls Tryz.prog 47 #[.string k, .string v] w fun E w' => E = .returned (.agg #[.bool true, .string k, .string v]) ∧ Below w.heap.size w w' := by
  obtain ⟨w1, hw1, s1, b1, P1⟩ := blk_step w #[.bool false, .string ⟨#[]⟩, .string ⟨#[]⟩] 88
  obtain ⟨V', hV', bV', gV', ⟨a0, a1, a2⟩, ⟨f0, f1, f2⟩, ⟨z0, z1, z2⟩⟩ := res_step P1 (.bool true) (.string k) (.string v)
  have BV := hide (below_put b1 gV' (Nat.le_refl _) (by omega))
  clear b1 P1 bV' gV' s1
  go_enter Tryz.func47, Tryz.ntmps47
  go_wp2
  refine bodyPost_ret (v := .agg #[.bool true, .string k, .string v]) (by simp [results, Tryz.results47, go_sem, z0, z1, z2]) rfl ?_
  exact ⟨rfl, BV.out⟩

/-- The chapter's ops. -/
def oa : Bm.Ov := ⟨true, ⟨#[97]⟩, ⟨#[49]⟩⟩
def ob : Bm.Ov := ⟨true, ⟨#[98]⟩, ⟨#[50]⟩⟩
def od : Bm.Ov := ⟨false, ⟨#[97]⟩, ⟨#[]⟩⟩
theorem fit_ops : FitO [oa] ∧ FitO [ob] ∧ FitO [od] := by
  refine ⟨fun o ho => ?_, fun o ho => ?_, fun o ho => ?_⟩ <;> rw [List.mem_singleton.1 ho] <;> exact ⟨by decide, by decide⟩
theorem chk_ops : Bm.chkL [oa] = 0 ∧ Bm.chkL [ob] = 0 ∧ Bm.chkL [od] = 0 := ⟨by decide, by decide, by decide⟩

/-- The chapter's nodes: new, behind one commit, behind two. -/
def n0 : Ns := Ns.one 0 2 (new23 0)
def n1 : Ns := n0.co [oa]
def n2 : Ns := n1.co [ob]

/-- What the chapter says of these. -/
structure Cha : Prop where
  p0 : Prm 1 n0 1 0
  p1 : Prm 2 n1 1 0
  p2 : Prm 3 n2 1 0
  e0 : n0.coE [oa] = 0
  e1 : n1.coE [ob] = 0
  e2 : n2.coE [od] = 8
  x2 : n2.co [od] = n2
  l0 : n0.s.l.length = 0
  l1 : n1.s.l.length = 1
  l2 : n2.s.l.length = 2
  a2 : n2.a = 0
  k2 : n2.k = -1
  t2 : n2.t = 2
  f2 : Sto.fold (Rst.sto n2.s) = Tm.app (Tm.app [] [oa]) [ob]

theorem cha : Cha := by
  have p0 : Prm 1 n0 1 0 := prm_new 2 (by decide)
  obtain ⟨c1, c2, c3⟩ := chk_ops
  have b0 : n0.bar [oa] = 0 := by
    rw [Prm.bar p0 (by omega), if_neg (by rw [c1]; simp)]
    rfl
  obtain ⟨e0, p1, l1, a1, t1, k1, _, f1⟩ := p0.yes (by omega) b0
  have l1' : n1.s.l.length = 1 := by show (n0.co [oa]).s.l.length = 1; rw [show (n0.co [oa]).s.l = _ from l1, List.length_append]; rfl
  have a1 : n1.a = 0 := a1
  have t1 : n1.t = 2 := t1
  have k1 : n1.k = -1 := k1
  have p1 : Prm 2 n1 1 0 := p1
  have b1 : n1.bar [ob] = 0 := by
    rw [p1.bar (by omega), if_neg (by rw [c2]; simp), l1', a1, t1]
    rfl
  obtain ⟨e1, p2, l2, a2, t2, k2, _, f2⟩ := p1.yes (by omega) b1
  have p2 : Prm 3 n2 1 0 := p2
  have l2' : n2.s.l.length = 2 := by
    show (n1.co [ob]).s.l.length = 2
    rw [l2, List.length_append, l1']
    rfl
  have a2 : n2.a = 0 := a2.trans a1
  have t2 : n2.t = 2 := t2.trans t1
  have k2 : n2.k = -1 := k2.trans k1
  have b2 : n2.bar [od] = 8 := by
    rw [p2.bar (by omega), if_neg (by rw [c3]; simp), l2', a2, t2]
    rfl
  have f1 : Sto.fold (Rst.sto n1.s) = Tm.app (Sto.fold (Rst.sto n0.s)) [oa] := f1
  have f2 : Sto.fold (Rst.sto n2.s) = Tm.app (Sto.fold (Rst.sto n1.s)) [ob] := f2
  obtain ⟨g1, g2⟩ := p2.no (l := [od]) (by omega) (by rw [b2]; simp)
  exact ⟨p0, p1, p2, e0, e1, g1.trans b2, g2, rfl, l1', l2', a2, k2, t2, by rw [f2, f1]; rfl⟩

set_option maxRecDepth 20000 in
set_option maxHeartbeats 8000000 in
theorem lives23_any (w : World) (hm : Mst w) : Calls Tryz.prog 20 #[] w fun E w' => E = .returned (.bool true) ∧ Below w.heap.size w w' := by
  have HM := hide hm
  have NW := hide (new_any w)
  have CH := hide cha
  have FO := hide fit_ops
  clear hm
  go_enter Tryz.func20, Tryz.ntmps20
  go_wp2_with fail
  refine NW.out.mono ?_
  rintro E w1 ⟨rfl, K1, B1⟩
  have OP := hide (nl_new (w0 := w) 0 2 (.inl rfl) (by decide) HM.out w1 (Nat.le_refl _) K1 B1)
  obtain ⟨q, hq⟩ : ∃ q, w.heap.size = q := ⟨_, rfl⟩
  rw [hq] at OP ⊢
  clear NW K1 B1
  go_wp2_with fail
  refine OP.out.mono ?_
  rintro E w2 ⟨n, p, F, rfl, L2⟩
  have L2 : Hid (Nl w w2 n p q F n0) := L2
  have PT := hide (put23_any ⟨#[97]⟩ ⟨#[49]⟩ w2)
  clear OP
  go_wp2_with fail
  refine PT.out.mono ?_
  rintro E w3 ⟨rfl, b3⟩
  have L3 := L2.out.below b3
  obtain ⟨V, hV, AD⟩ := nl_commit L3 CH.out.p0 (by omega) oa FO.out.1
  rw [CH.out.e0, if_pos rfl, CH.out.l0] at AD
  simp only [oa] at hV
  have L3 := hide L3
  clear PT L2 b3
  go_wp2_with fail
  refine AD.out.mono ?_
  rintro E w4 ⟨rfl, K4⟩
  obtain ⟨F4, L4⟩ := L3.out.step K4
  have L4 : Hid (Nl w w4 n p q F4 n1) := hide L4
  have PT := hide (put23_any ⟨#[98]⟩ ⟨#[50]⟩ w4)
  clear AD hV K4 L3
  go_wp2_with fail
  refine PT.out.mono ?_
  rintro E w5 ⟨rfl, b5⟩
  have L5 := L4.out.below b5
  obtain ⟨V5, hV5, AD⟩ := nl_commit L5 CH.out.p1 (by omega) ob FO.out.2.1
  rw [CH.out.e1, if_pos rfl, CH.out.l1] at AD
  simp only [ob] at hV5
  have L5 := hide L5
  clear PT L4 b5
  go_wp2_with fail
  refine AD.out.mono ?_
  rintro E w6 ⟨rfl, K6⟩
  obtain ⟨F6, L6⟩ := L5.out.step K6
  clear K6 L5
  have L6 : Hid (Nl w w6 n p q F6 n2) := hide L6
  obtain ⟨V6, hV6, AD⟩ := nl_commit L6.out CH.out.p2 (by omega) od FO.out.2.2
  rw [CH.out.e2, if_neg (by simp), CH.out.x2] at AD
  simp only [od] at hV6
  clear hV5
  go_wp2_with fail
  refine AD.out.mono ?_
  rintro E w7 ⟨rfl, K7⟩
  obtain ⟨F7, L7⟩ := L6.out.step K7
  clear K7 L6
  have L7 := hide L7
  have KN := hide (nknown_no n p q F7 w7 n2 L7.out.nd CH.out.k2)
  clear AD hV6
  go_wp2_with fail
  refine KN.out.mono ?_
  rintro E w8 ⟨rfl, rfl⟩
  have RD := hide (nRead_any n p q F7 w7 n2 L7.out.nd (CH.out.p2.rok (by omega)) CH.out.p2.on (CH.out.p2.rd (by omega)) ⟨#[97]⟩ (by decide))
  rw [CH.out.f2, show gv (Tm.app (Tm.app [] [oa]) [ob]) ⟨#[97]⟩ = ⟨#[49]⟩ from rfl, show gp (Tm.app (Tm.app [] [oa]) [ob]) ⟨#[97]⟩ = true from rfl] at RD
  clear KN
  go_wp2_with fail
  refine RD.out.mono ?_
  rintro E w9 ⟨rfl, b9⟩
  have L9 := hide (L7.out.below b9)
  have OU := hide (nout_any n p q F7 w9 n2 L9.out.nd (CH.out.p2.rok (by omega)) (by rw [CH.out.p2.pg]))
  rw [CH.out.p2.out (by omega), CH.out.l2, CH.out.a2] at OU
  clear RD L7 b9
  go_wp2_with fail
  refine OU.out.mono ?_
  rintro E wa ⟨rfl, ba⟩
  have LA := hide (L9.out.below ba)
  clear OU L9 ba
  go_wp2
  go_ret
  exact ⟨rfl, LA.out.bel⟩

end Go.Proofs.YtajlhdmnincehaaGreatDoor
