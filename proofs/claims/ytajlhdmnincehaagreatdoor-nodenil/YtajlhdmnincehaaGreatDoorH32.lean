/- Texts of one layer, one behind the other. -/
import Derived.Test.YtajlhdmnincehaaGreatDoorH20
import Derived.Test.YtajlhdmnincehaaGreatDoorH25
import Derived.Test.YtajlhdmnincehaaGreatDoorH10
import Derived.Test.YtajlhdmnincehaaGreatDoorH18
import Derived.Test.YtajlhdmnincehaaGreatDoorH33
import Derived.Test.YtajlhdmnincehaaGreatDoorH16
import Derived.Test.YtajlhdmnincehaaGreatDoorM3
/- The program's node (layer 23): its memory is laid. -/
namespace Go.Proofs.YtajlhdmnincehaaGreatDoor
open Go.RowKit
set_option linter.unusedVariables false

/-- Cells of a block, written one behind the other. -/
def sets (R : Nat) : World → Nat → List Value → World
  | V, _, [] => V
  | V, o, a :: l => sets R (V.setCell ⟨R, o, none⟩ a) (o + 1) l

theorem sets_any (R : Nat) (t : TypeId) : ∀ (l : List Value) (V : World) (o : Nat) (cs : List Value), V.heap[R]? = some (.cells cs.toArray t (0, 0)) → o + l.length ≤ cs.length → (sets R V o l).heap[R]? = some (.cells (cs.take o ++ (l ++ cs.drop (o + l.length))).toArray t (0, 0)) ∧ V.grownBy (sets R V o l) (some R)
  | [], V, o, cs, h, _ => ⟨by simp [sets, h], World.grownBy.refl _ _⟩
  | a :: l, V, o, cs, h, hl => by
    rw [List.length_cons] at hl
    have h1 : (V.setCell ⟨R, o, none⟩ a).heap[R]? = some (.cells (cs.set o a).toArray t (0, 0)) := by rw [set_cells h o a, List.setIfInBounds_toArray]
    obtain ⟨k1, k2⟩ := sets_any R t l _ (o + 1) (cs.set o a) h1 (by rw [List.length_set]; omega)
    refine ⟨?_, grown_trans (grown_setCell V ⟨R, o, none⟩ a) k2⟩
    show (sets R (V.setCell ⟨R, o, none⟩ a) (o + 1) l).heap[R]? = _
    rw [k1]
    have e1 : (cs.set o a).take (o + 1) = cs.take o ++ [a] := by
      rw [List.take_add_one, List.take_set_of_le (Nat.le_refl _), List.getElem?_set_self (by omega)]
      rfl
    have e2 : (cs.set o a).drop (o + 1 + l.length) = cs.drop (o + (a :: l).length) := by
      rw [List.drop_set_of_lt (by omega), List.length_cons]
      congr 1
      omega
    rw [e1, e2]
    simp

/-- What a node has in memory at first. -/
def mem0 (p : Nat) (a : Int) : List Value := [.pointer (some ⟨p, 0, none⟩), .int .i64 a, .int .i64 (-1), .int .i64 0, .int .i64 0, .int .u8 0, .int .i64 0, .slice none 0 0, .int .i64 0, .int .i64 0, .slice none 0 0]

set_option maxHeartbeats 1000000 in
theorem nfirst_any (p q : Nat) (F : Nat → Prop) (w : World) (s : Rst.St) (h : PS p q F w s) (hR : Rok s) :
    Calls Tryz.prog 39 #[.pointer (some ⟨p, 0, none⟩)] w fun E w' => E = .returned (.agg (mem0 p s.p.a).toArray) ∧ Below w.heap.size w w' := by
  have hfd := fun (a b c d e f : Int) (w : World) => show (Instr.field 60 (.agg #[.int .i64 a, .int .u8 b, .int .i64 c, .int .u8 d, .int .i64 e, .int .i64 f]) 2).run Tryz.prog w = .ok (.int .i64 c) w by kernel_rfl
  obtain ⟨w1, hw1, s1, b1, P1⟩ := blk_step w #[.pointer none, .int .i64 0, .int .i64 0, .int .i64 0, .int .i64 0, .int .u8 0, .int .i64 0, .slice none 0 0, .int .i64 0, .int .i64 0, .slice none 0 0] 35
  have PG := hide (qpage_any p q F w1 s (h.agree (fun g hg => b1.block g (h.lt g hg)) b1.size (h.mst.below b1)) hR)
  have HV : vp s.p = .agg #[.int .i64 s.p.e, .int .u8 s.p.r, .int .i64 s.p.a, .int .u8 s.p.p, .int .i64 s.p.f, .int .i64 s.p.b] := rfl
  rw [HV] at PG
  have PP := hide (And.intro P1 b1)
  obtain ⟨a, ha⟩ : ∃ a, s.p.a = a := ⟨_, rfl⟩
  rw [ha] at PG ⊢
  clear h hR P1 b1 HV ha
  go_enter Tryz.func39, Tryz.ntmps39
  go_wp2_with fail
  refine PG.out.mono ?_
  rintro E w2 ⟨rfl, b2⟩
  obtain ⟨P1, b1⟩ := PP.out
  have P2 := (b2.block w.heap.size (by omega)).trans P1
  obtain ⟨V, hV⟩ : ∃ V, sets w.heap.size w2 0 (mem0 p a) = V := ⟨_, rfl⟩
  obtain ⟨k1, k2⟩ := sets_any w.heap.size 35 (mem0 p a) w2 0 [.pointer none, .int .i64 0, .int .i64 0, .int .i64 0, .int .i64 0, .int .u8 0, .int .i64 0, .slice none 0 0, .int .i64 0, .int .i64 0, .slice none 0 0] P2 (Nat.le_refl _)
  rw [hV] at k1 k2
  have z2 := b2.size
  have BV := hide (below_put (b1.trans (b2.mono (by omega))) k2 (Nat.le_refl _) (by omega))
  simp only [sets, mem0, Nat.reduceAdd] at hV
  have f := blk_froz P2
  have f0 := f 0; have f1 := f 1; have f2 := f 2; have f3 := f 3; have f4 := f 4; have f5 := f 5; have f6 := f 6; have f7 := f 7; have f8 := f 8; have f9 := f 9; have f10 := f 10
  have c := fun j v (e : _[j]? = some v) => blk_cell P2 j e
  have c0 := c 0 _ rfl; have c1 := c 1 _ rfl; have c2 := c 2 _ rfl; have c3 := c 3 _ rfl; have c4 := c 4 _ rfl; have c5 := c 5 _ rfl; have c6 := c 6 _ rfl; have c7 := c 7 _ rfl; have c8 := c 8 _ rfl; have c9 := c 9 _ rfl; have c10 := c 10 _ rfl
  have d := fun j v (e : _[j]? = some v) => blk_cell k1 j e
  have d0 := d 0 _ rfl; have d1 := d 1 _ rfl; have d2 := d 2 _ rfl; have d3 := d 3 _ rfl; have d4 := d 4 _ rfl; have d5 := d 5 _ rfl; have d6 := d 6 _ rfl; have d7 := d 7 _ rfl; have d8 := d 8 _ rfl; have d9 := d 9 _ rfl; have d10 := d 10 _ rfl
  clear PG PP P1 b1 b2 P2 k1 k2 z2 f c d s1
  go_wp2
  refine bodyPost_ret (v := .agg (mem0 p a).toArray) (by simp [results, Tryz.results39, go_sem, d0, d1, d2, d3, d4, d5, d6, d7, d8, d9, d10, mem0]) rfl ?_
  exact ⟨rfl, BV.out⟩

end Go.Proofs.YtajlhdmnincehaaGreatDoor

/- The program's restart (layer 21): Open's first steps: no disk, the node, the log, the runs. -/
namespace Go.Proofs.YtajlhdmnincehaaGreatDoor
open Go.RowKit
set_option linter.unusedVariables false





theorem isnode_any (n : Int) (w : World) : Calls Tryz.prog 69 #[.int .i64 n] w fun E w' => E = .returned (.int .i64 (fse n)) ∧ Below w.heap.size w w' := by
  have FI := hide (first_any n w)
  unfold vp at FI
  go_enter Tryz.func69, Tryz.ntmps69
  go_wp2_with fail
  refine FI.out.mono ?_
  rintro E w1 ⟨rfl, b1⟩
  clear FI
  obtain ⟨V, hV, hV', sV, bV, PV, ⟨z0, z1, z2, z3, z4, z5⟩⟩ := new6 w1 60 (.int .i64 0) (.int .u8 0) (.int .i64 0) (.int .u8 0) (.int .i64 0) (.int .i64 0) (.int .i64 (fst n).e) (.int .u8 (fst n).r) (.int .i64 (fst n).a) (.int .u8 (fst n).p) (.int .i64 (fst n).f) (.int .i64 (fst n).b)
  have BV := hide (b1.trans (bV.mono b1.size))
  clear b1 bV PV sV
  go_wp2
  all_goals
    go_ret
    exact ⟨rfl, BV.out⟩

theorem open1_any (g : Nat) (n : Int) (w : World) (hg : w.cell? ⟨g, 0, none⟩ = some (.int .i64 n)) : Calls Tryz.prog 68 #[.pointer (some ⟨g, 0, none⟩)] w fun E w' => E = .returned (.int .i64 (fse n)) ∧ Below w.heap.size w w' := by
  have FI := hide (isnode_any n w)
  go_enter Tryz.func68, Tryz.ntmps68
  go_wp2_with fail
  refine FI.out.mono ?_
  rintro E w1 ⟨rfl, b1⟩
  have B := hide b1
  clear FI b1
  go_wp2
  go_ret
  exact ⟨rfl, B.out⟩



/-- Two cells of a state are written: the wal and the log's end. -/
theorem put_wal {V : World} {P q : Nat} {off : Bool} {x : Pm.Pg} {vw vr vs : Value} {en : Int} (hP : V.heap[P]? = some (.cells (stC q off x vw en vr vs) 107 (0, 0))) (vw' : Value) (en' : Int) :
    ∃ V1 V2, V.setCell ⟨P, 8, none⟩ vw' = V1 ∧ V1.setCell ⟨P, 9, none⟩ (.int .i64 en') = V2 ∧ V1.heap[P]? = some (.cells (stC q off x vw' en vr vs) 107 (0, 0)) ∧ V2.heap[P]? = some (.cells (stC q off x vw' en' vr vs) 107 (0, 0)) ∧ Out (fun g => g = P) V V1 ∧ Out (fun g => g = P) V1 V2 := by
  have q1 : (V.setCell ⟨P, 8, none⟩ vw').heap[P]? = some (.cells (stC q off x vw' en vr vs) 107 (0, 0)) := set_cells hP 8 vw'
  exact ⟨_, _, rfl, rfl, q1, set_cells q1 9 (.int .i64 en'), Out.of_grown (grown_setCell V ⟨P, 8, none⟩ vw') fun i hi => by simpa using hi.symm, Out.of_grown (grown_setCell _ ⟨P, 9, none⟩ (.int .i64 en')) fun i hi => by simpa using hi.symm⟩

theorem put_run {V : World} {P q : Nat} {off : Bool} {x : Pm.Pg} {vw vr vs : Value} {en : Int} (hP : V.heap[P]? = some (.cells (stC q off x vw en vr vs) 107 (0, 0))) (vr' : Value) :
    ∃ V1, V.setCell ⟨P, 11, none⟩ vr' = V1 ∧ V1.heap[P]? = some (.cells (stC q off x vw en vr' vs) 107 (0, 0)) ∧ Out (fun g => g = P) V V1 :=
  ⟨_, rfl, set_cells hP 11 vr', Out.of_grown (grown_setCell V ⟨P, 11, none⟩ vr') fun i hi => by simpa using hi.symm⟩



end Go.Proofs.YtajlhdmnincehaaGreatDoor

/- The program's restart (layer 21): Open's steps: the pages, the orphans. -/
namespace Go.Proofs.YtajlhdmnincehaaGreatDoor
open Go.RowKit
set_option linter.unusedVariables false


theorem fst_ok {node : Int} (hn : node = 0 ∨ node = 1) : Pm.Ok (fst node) ∧ fse node = 0 := by
  rcases hn with rfl | rfl
  · exact ⟨by unfold fst; rw [if_pos rfl]; decide, rfl⟩
  · exact ⟨by unfold fst; rw [if_neg (by decide), if_pos rfl]; decide, rfl⟩




theorem open2_any (g0 g1 P : Nat) (n r : Int) (w : World) (X : Int → World → Prop) (h0 : w.cell? ⟨g0, 0, none⟩ = some (.pointer (some ⟨P, 0, none⟩))) (h1 : w.cell? ⟨g1, 0, none⟩ = some (.int .i64 n)) (hs : Calls Tryz.prog 72 #[.pointer (some ⟨P, 0, none⟩), .int .i64 n] w fun E w' => ∃ e, E = .returned (.int .i64 e) ∧ X e w') :
    Calls Tryz.prog 71 #[.pointer (some ⟨g0, 0, none⟩), .pointer (some ⟨g1, 0, none⟩)] w fun E w' => ∃ e, E = .returned (.int .i64 e) ∧ X e w' := by
  have PC := hide hs
  clear hs
  go_enter Tryz.func71, Tryz.ntmps71
  go_wp2_with fail
  refine PC.out.mono ?_
  rintro E w' ⟨e, rfl, k⟩
  have K := hide k
  clear k PC
  go_wp2
  go_ret
  exact ⟨e, rfl, K.out⟩

set_option maxHeartbeats 2000000 in
theorem open3_any (g0 P q pw pr : Nat) (F F' : Nat → Prop) (w : World) (off : Bool) (x : Pm.Pg) (en b : Int) (vs : Value) (sw : Wl.Ws) (sr : Rl.Rs) (h0 : w.cell? ⟨g0, 0, none⟩ = some (.pointer (some ⟨P, 0, none⟩))) (hb : w.heap[P]? = some (.cells (stC q off x (.pointer (some ⟨pw, 0, none⟩)) en (.pointer (some ⟨pr, 0, none⟩)) vs) 107 (0, 0))) (h1 : WW pw q F w sw) (h2 : RW pr q F' w sr) (hS : ∀ W, Below w.heap.size w W → Calls Tryz.prog 138 #[.pointer (some ⟨P, 0, none⟩)] W fun E w' => E = .returned (.int .i64 b) ∧ Below W.heap.size W w') :
    Calls Tryz.prog 75 #[.pointer (some ⟨g0, 0, none⟩)] w fun E w' => E = .returned (.int .i64 (if chO x (Cm.lastE 0 sw.l) en (Cm.lastN 0 sr.l) b = true then 0 else 5)) ∧ Below w.heap.size w w' := by
  have OL := hide (outline_any P q pw pr F F' w off x en vs sw sr hb h1 h2)
  have CK : Hid (∀ w1, Below w.heap.size w w1 → Calls Tryz.prog 77 #[.agg (olC x (Cm.lastE 0 sw.l) en (Cm.lastN 0 sr.l) P)] w1 fun E w' => E = .returned (.int .i64 (if chO x (Cm.lastE 0 sw.l) en (Cm.lastN 0 sr.l) b = true then 0 else 5)) ∧ Below w1.heap.size w1 w') := hide fun w1 k => rcheck_any P x _ en _ b w1 fun _ W hW => hS W (k.trans (hW.mono k.size))
  generalize (if chO x (Cm.lastE 0 sw.l) en (Cm.lastN 0 sr.l) b = true then (0 : Int) else 5) = r at *
  clear hb h1 h2 hS
  go_enter Tryz.func75, Tryz.ntmps75
  go_wp2_with fail
  refine OL.out.mono ?_
  rintro E w1 ⟨rfl, b1⟩
  have CK1 := hide (CK.out w1 b1)
  have B1 := hide b1
  clear OL CK b1
  go_wp2_with fail
  refine CK1.out.mono ?_
  rintro E w2 ⟨rfl, b2⟩
  have B2 := hide (B1.out.trans (b2.mono B1.out.size))
  clear CK1 b2 B1
  go_wp2
  go_ret
  exact ⟨rfl, B2.out⟩

end Go.Proofs.YtajlhdmnincehaaGreatDoor

/- The program's restart (layer 21): Open's last step: the store. -/
namespace Go.Proofs.YtajlhdmnincehaaGreatDoor
open Go.RowKit
set_option linter.unusedVariables false

theorem frl_drop (l : List Cm.Cv) (n : Int) (h0 : 0 ≤ n) (h : n ≤ l.length) : frl l (n + 1) l.length = l.drop n.toNat := by
  unfold frl
  split
  · rename_i k
    have : l.length ≤ n.toNat := by omega
    rw [List.drop_eq_nil_of_le this]
  · rw [show (n + 1).toNat - 1 = n.toNat by omega]
    exact List.take_of_length_le (by rw [List.length_drop]; omega)

set_option maxRecDepth 20000 in
set_option maxHeartbeats 4000000 in
theorem openstore_any (P q pw pr : Nat) (F Gw Gr : Nat → Prop) (w : World) (off : Bool) (x : Pm.Pg) (vs : Value) (d : Dm.Ds) (l r : List Cm.Cv) (hb : w.heap[P]? = some (.cells (stC q off x (.pointer (some ⟨pw, 0, none⟩)) l.length (.pointer (some ⟨pr, 0, none⟩)) vs) 107 (0, 0))) (hp : ∃ o, vs = .pointer o) (hd : Pk q F w d) (h1 : Wk pw q Gw w l false) (h2 : Rk pr q Gr w r false) (hle : Cm.lastN 0 r ≤ l.length) (hll : l.length ≤ 100000) :
    Calls Tryz.prog 78 #[.pointer (some ⟨P, 0, none⟩)] w fun E w' => E = .returned (.int .i64 0) ∧ ∃ ps, ∃ Gs, Sk ps pr Gs w' (l.drop (Cm.lastN 0 r).toNat) ∧ (∀ g, Gs g → w.heap.size ≤ g) ∧ w'.heap[P]? = some (.cells (stC q off x (.pointer (some ⟨pw, 0, none⟩)) l.length (.pointer (some ⟨pr, 0, none⟩)) (.pointer (some ⟨ps, 0, none⟩))) 107 (0, 0)) ∧ Out (fun g => g = P) w w' := by
  obtain ⟨o, rfl⟩ := hp
  have hpl := blk_lt hb
  have hgr : Rl.Good 0 r := by
    obtain ⟨v, rs, k, _⟩ := h2
    exact k.log.good
  have h0n : 0 ≤ Cm.lastN 0 r := (Rl.good_len hgr).2.1
  have hgl := h1.good
  have hgd : Cm.Good 1 (Cm.lastN 0 r) (l.drop (Cm.lastN 0 r).toNat) := by
    have := Sto.good_drop (Rst.good_up hgl) (Cm.lastN 0 r).toNat (by omega)
    rw [show (0 : Int) + ((Cm.lastN 0 r).toNat : Int) = Cm.lastN 0 r by omega] at this
    exact this
  have hfr := frl_drop l (Cm.lastN 0 r) h0n hle
  obtain ⟨K, hK⟩ : ∃ K : World → Prop, K = fun W => Hid (W.heap[P]? = w.heap[P]? ∧ Below w.heap.size w W) := ⟨_, rfl⟩
  have HE : Hid (∀ W, K W → Calls Tryz.prog 137 #[.pointer (some ⟨pr, 0, none⟩)] W fun E w' => E = .returned (.int .i64 (Cm.lastN 0 r)) ∧ K w') := hide fun W k => by
    subst hK
    refine (hrend_any pr q _ W ⟨d, r, false⟩ ⟨F, Gr, hd.below k.out.2, h2.below k.out.2, rfl⟩).mono ?_
    rintro E w' ⟨rfl, rfl⟩
    exact ⟨rfl, k⟩
  have HF : Hid (∀ W, K W → Calls Tryz.prog 82 #[.pointer (some ⟨pw, 0, none⟩), .int .i64 (Cm.lastN 0 r + 1), .int .i64 l.length] W fun E w' => ∃ a n k rs, E = .returned (.slice a n k) ∧ Hid (IsC w' (.slice a n k) rs ∧ cvs rs = l.drop (Cm.lastN 0 r).toNat) ∧ K w') := hide fun W k => by
    subst hK
    refine (wfrom_any pw q _ W ⟨d, l, false⟩ (Cm.lastN 0 r + 1) l.length ⟨F, Gw, hd.below k.out.2, h1.below k.out.2, rfl⟩).mono ?_
    rintro E w' ⟨v, rs, rfl, o1, o2, o3, o4, o5⟩
    have b := k.out.2.trans (o5.mono k.out.2.size)
    have o3 : cvs rs = l.drop (Cm.lastN 0 r).toNat := o3.trans hfr
    have hic : IsC w' v rs := ⟨o1.row, fun c hc => ⟨(o2 c hc).is, by
      have hm : c.c ∈ l.drop (Cm.lastN 0 r).toNat := by rw [← o3]; exact List.mem_map_of_mem hc
      have := Sto.good_all hgd c.c hm
      have h3 := Cm.chk_zero this.1
      have e1 : c.c.e = c.e := rfl
      have e2 : c.c.n = c.n := rfl
      unfold In64
      omega⟩⟩
    obtain ⟨a, n, kk, rfl⟩ : ∃ a n k, v = .slice a n k := by
      rcases hic.1 with ⟨h, _⟩ | ⟨a, c, h, _⟩
      · exact ⟨_, _, _, h⟩
      · exact ⟨_, _, _, h⟩
    exact ⟨a, n, kk, rs, rfl, hide ⟨hic, o3⟩, hide ⟨b.block P hpl, b⟩⟩
  have HO : Hid (∀ W, K W → ∀ a n k rs, Hid (IsC W (.slice a n k) rs ∧ cvs rs = l.drop (Cm.lastN 0 r).toNat) → Calls Tryz.prog 139 #[.pointer (some ⟨pr, 0, none⟩), .slice a n k] W fun E w' => ∃ ps, E = .returned (.tuple #[.pointer (some ⟨ps, 0, none⟩), .int .i64 0]) ∧ Hid (∃ Gs, Sk ps pr Gs w' (l.drop (Cm.lastN 0 r).toNat) ∧ ∀ g, Gs g → w.heap.size ≤ g) ∧ K w') := hide fun W k a n kk rs RC => by
    subst hK
    have hz := k.out.2.size
    have hfc : FitC rs := fun c hc => by
      have hm : c.c ∈ l.drop (Cm.lastN 0 r).toNat := by rw [← RC.out.2]; exact List.mem_map_of_mem hc
      obtain ⟨_, _, _, _, h5⟩ := Cm.chk_zero (Sto.good_all hgd c.c hm).1
      have := (Bm.chkL_zero h5).2.1
      exact ⟨(small_of h5).fit, by show c.c.l.length * 40 ≤ _; omega⟩
    have hrl : rs.length ≤ 100000 := by
      have := congrArg List.length RC.out.2
      unfold cvs at this
      rw [List.length_map, List.length_drop] at this
      omega
    refine (sopen_any pr q _ W ⟨d, r, false⟩ _ rs ⟨F, Gr, hd.below k.out.2, h2.below k.out.2, rfl⟩ RC.out.1 hfc hrl).mono ?_
    have hf0 : (Cm.fol 1 (Cm.lastN 0 r) 0 (cvs rs)).1 = 0 := (Cm.fol_good _ _ _ 0).2 (by rw [RC.out.2]; exact hgd)
    rintro E w' (⟨h, _⟩ | ⟨_, ps, rfl, Gs, g1, g2, g3⟩)
    · exact absurd hf0 h
    · have b := k.out.2.trans (g3.mono hz)
      rw [RC.out.2] at g1
      exact ⟨ps, rfl, hide ⟨Gs, g1, fun g hg => by have := g2 g hg; omega⟩, hide ⟨b.block P hpl, b⟩⟩
  have hwr : IntKind.i64.wrap (Cm.lastN 0 r + 1) = Cm.lastN 0 r + 1 := wrap_i64_small _ (by omega) (by omega)
  have HL : Hid (∃ m, m = l.drop (Cm.lastN 0 r).toNat) := hide ⟨_, rfl⟩
  obtain ⟨SS, hSS⟩ : ∃ SS : Int → World → Prop, SS = fun en => (fun W => W.cell? ⟨P, 8, none⟩ = some (.pointer (some ⟨pw, 0, none⟩)) ∧ W.cell? ⟨P, 9, none⟩ = some (.int .i64 en) ∧ W.cell? ⟨P, 11, none⟩ = some (.pointer (some ⟨pr, 0, none⟩))) := ⟨_, rfl⟩
  have sB : ∀ W, W.heap[P]? = w.heap[P]? → SS l.length W := fun W k => by
    subst hSS
    obtain ⟨c0, _, c2, c3, c4, c5, c6, c7, c8, c9, _, c11, _⟩ := sta_of (k.trans hb)
    exact ⟨c8, c9, c11⟩
  have KS : Hid (∀ W, K W → SS l.length W) := hide fun W k => by
    subst hK
    exact sB W k.out.1
  have PT : Hid (∀ W ps, K W → Hid (∃ Gs, Sk ps pr Gs W (l.drop (Cm.lastN 0 r).toNat) ∧ ∀ g, Gs g → w.heap.size ≤ g) → ∃ V, W.setCell ⟨P, 12, none⟩ (.pointer (some ⟨ps, 0, none⟩)) = V ∧ W.cell? ⟨P, 12, none⟩ = some (.pointer o) ∧ W.frozen? ⟨P, 12, none⟩ = false ∧ (SS l.length V ∧ ∃ Gs, Sk ps pr Gs V (l.drop (Cm.lastN 0 r).toNat) ∧ (∀ g, Gs g → w.heap.size ≤ g) ∧ V.heap[P]? = some (.cells (stC q off x (.pointer (some ⟨pw, 0, none⟩)) l.length (.pointer (some ⟨pr, 0, none⟩)) (.pointer (some ⟨ps, 0, none⟩))) 107 (0, 0)) ∧ Out (fun g => g = P) w V)) := hide fun W ps k sk => by
    subst hK hSS
    obtain ⟨Gs, s1, s2⟩ := sk.out
    have pW := k.out.1.trans hb
    have oV : Out (fun g => g = P) W (W.setCell ⟨P, 12, none⟩ (.pointer (some ⟨ps, 0, none⟩))) := Out.of_grown (grown_setCell W ⟨P, 12, none⟩ (.pointer (some ⟨ps, 0, none⟩))) fun i hi => by simpa using hi.symm
    have pV : (W.setCell ⟨P, 12, none⟩ (.pointer (some ⟨ps, 0, none⟩))).heap[P]? = some (.cells (stC q off x (.pointer (some ⟨pw, 0, none⟩)) l.length (.pointer (some ⟨pr, 0, none⟩)) (.pointer (some ⟨ps, 0, none⟩))) 107 (0, 0)) := set_cells pW 12 (.pointer (some ⟨ps, 0, none⟩))
    obtain ⟨_, _, _, _, _, _, _, _, c8, c9, _, c11, _⟩ := sta_of pV
    exact ⟨_, rfl, blk_cell pW 12 rfl, blk_froz pW 12, ⟨c8, c9, c11⟩, Gs, s1.out oV fun g hg e => by have := s2 g hg; omega, s2, pV, (Out.of_below k.out.2).trans oV fun g hg => .inl hg⟩
  obtain ⟨W0, hW0⟩ : ∃ W, w.drew = W := ⟨_, rfl⟩
  have K0 : K W0 := by
    subst hK
    rw [← hW0]
    exact hide ⟨rfl, (Below.refl _ _).drew⟩
  subst hK hSS
  simp only at KS PT
  generalize (l.length : Int) = en at *
  generalize l.drop (Cm.lastN 0 r).toNat = rest at *
  generalize Cm.lastN 0 r = n at *
  clear h1 h2 hd hb sB hgr hgl hgd hfr hle hll HL
  go_enter Tryz.func78, Tryz.ntmps78
  go_wp2_with fail
  refine region_any (ops := (regOf 1 Tryz.f78)) (S := fun W => W.cell? ⟨P, 8, none⟩ = some (.pointer (some ⟨pw, 0, none⟩)) ∧ W.cell? ⟨P, 9, none⟩ = some (.int .i64 en) ∧ W.cell? ⟨P, 11, none⟩ = some (.pointer (some ⟨pr, 0, none⟩))) (by kernel_rfl) wqc_size ?_
  rw [wqc_new, hW0]
  refine any_take (v := ?_) wqc_t0_0 (by kernel_rfl) (fun _ _ _ _ _ h => h) (KS.out _ K0) rfl rfl (by rfl) ?_ ?_
  rotate_left 1
  · intro w hS
    (try dsimp only at hS)
    go_simp
    all_goals with_reducible rfl
  simp only [Act.put, List.setIfInBounds_toArray, List.set_cons_zero, List.set_cons_succ]
  refine any_take (v := ?_) wqc_t1_1 (by kernel_rfl) (fun _ _ _ _ _ h => h) (KS.out _ K0) rfl rfl (by rfl) ?_ ?_
  rotate_left 1
  · intro w hS
    (try dsimp only at hS)
    go_simp
    all_goals with_reducible rfl
  simp only [Act.put, List.setIfInBounds_toArray, List.set_cons_zero, List.set_cons_succ]
  refine any_take (v := ?_) wqc_t3_2 (by kernel_rfl) (fun _ _ _ _ _ h => h) (KS.out _ K0) rfl rfl (by rfl) ?_ ?_
  rotate_left 1
  · intro w hS
    (try dsimp only at hS)
    go_simp
    all_goals with_reducible rfl
  simp only [Act.put, List.setIfInBounds_toArray, List.set_cons_zero, List.set_cons_succ]
  refine any_take (v := ?_) wqc_t7_3 (by kernel_rfl) (fun _ _ _ _ _ h => h) (KS.out _ K0) rfl rfl (by rfl) ?_ ?_
  rotate_left 1
  · intro w hS
    (try dsimp only at hS)
    go_simp
    all_goals with_reducible rfl
  simp only [Act.put, List.setIfInBounds_toArray, List.set_cons_zero, List.set_cons_succ]
  refine any_take (v := ?_) wqc_t15_4 (by kernel_rfl) (fun _ _ _ _ _ h => h) (KS.out _ K0) rfl rfl (by rfl) ?_ ?_
  rotate_left 1
  · intro w hS
    (try dsimp only at hS)
    go_simp
    all_goals with_reducible rfl
  simp only [Act.put, List.setIfInBounds_toArray, List.set_cons_zero, List.set_cons_succ]
  refine any_take (v := ?_) wqc_t31_5 (by kernel_rfl) (fun _ _ _ _ _ h => h) (KS.out _ K0) rfl rfl (by rfl) ?_ ?_
  rotate_left 1
  · intro w hS
    (try dsimp only at hS)
    go_simp
    all_goals with_reducible rfl
  simp only [Act.put, List.setIfInBounds_toArray, List.set_cons_zero, List.set_cons_succ]
  refine any_take (v := ?_) wqc_t63_6 (by kernel_rfl) (fun _ _ _ _ _ h => h) (KS.out _ K0) rfl rfl (by rfl) ?_ ?_
  rotate_left 1
  · intro w hS
    (try dsimp only at hS)
    go_simp
    all_goals with_reducible rfl
  simp only [Act.put, List.setIfInBounds_toArray, List.set_cons_zero, List.set_cons_succ]
  refine any_take (v := ?_) wqc_t127_7 (by kernel_rfl) (fun _ _ _ _ _ h => h) (KS.out _ K0) rfl rfl (by rfl) ?_ ?_
  rotate_left 1
  · intro w hS
    (try dsimp only at hS)
    go_simp
    all_goals with_reducible rfl
  simp only [Act.put, List.setIfInBounds_toArray, List.set_cons_zero, List.set_cons_succ]
  refine any_take (v := ?_) wqc_t255_8 (by kernel_rfl) (fun _ _ _ _ _ h => h) (KS.out _ K0) rfl rfl (by rfl) ?_ ?_
  rotate_left 1
  · intro w hS
    (try dsimp only at hS)
    go_simp
    all_goals with_reducible rfl
  simp only [Act.put, List.setIfInBounds_toArray, List.set_cons_zero, List.set_cons_succ]
  refine any_take (v := ?_) wqc_t511_9 (by kernel_rfl) (fun _ _ _ _ _ h => h) (KS.out _ K0) rfl rfl (by rfl) ?_ ?_
  rotate_left 1
  · intro w hS
    (try dsimp only at hS)
    go_simp
    all_goals with_reducible rfl
  simp only [Act.put, List.setIfInBounds_toArray, List.set_cons_zero, List.set_cons_succ]
  refine any_take (v := ?_) wqc_t1023_10 (by kernel_rfl) (fun _ _ _ _ _ h => h) (KS.out _ K0) rfl rfl (by rfl) ?_ ?_
  rotate_left 1
  · intro w hS
    (try dsimp only at hS)
    go_simp
    all_goals with_reducible rfl
  simp only [Act.put, List.setIfInBounds_toArray, List.set_cons_zero, List.set_cons_succ]
  refine any_take (v := ?_) wqc_t2047_11 (by kernel_rfl) (fun _ _ _ _ _ h => h) (KS.out _ K0) rfl rfl (by rfl) ?_ ?_
  rotate_left 1
  · intro w hS
    (try dsimp only at hS)
    go_simp
    all_goals with_reducible rfl
  simp only [Act.put, List.setIfInBounds_toArray, List.set_cons_zero, List.set_cons_succ]
  refine any_take (v := ?_) wqc_t4095_12 (by kernel_rfl) (fun _ _ _ _ _ h => h) (KS.out _ K0) rfl rfl (by rfl) ?_ ?_
  rotate_left 1
  · intro w hS
    (try dsimp only at hS)
    go_simp
    all_goals with_reducible rfl
  simp only [Act.put, List.setIfInBounds_toArray, List.set_cons_zero, List.set_cons_succ]
  refine any_take (v := ?_) wqc_t8191_13 (by kernel_rfl) (fun _ _ _ _ _ h => h) (KS.out _ K0) rfl rfl (by rfl) ?_ ?_
  rotate_left 1
  · intro w hS
    (try dsimp only at hS)
    go_simp
    all_goals with_reducible rfl
  simp only [Act.put, List.setIfInBounds_toArray, List.set_cons_zero, List.set_cons_succ]
  refine any_take (v := ?_) wqc_t16383_14 (by kernel_rfl) (fun _ _ _ _ _ h => h) (KS.out _ K0) rfl rfl (by rfl) ?_ ?_
  rotate_left 1
  · intro w hS
    (try dsimp only at hS)
    go_simp
    all_goals with_reducible rfl
  simp only [Act.put, List.setIfInBounds_toArray, List.set_cons_zero, List.set_cons_succ]
  refine any_take (v := ?_) wqc_t32767_15 (by kernel_rfl) (fun _ _ _ _ _ h => h) (KS.out _ K0) rfl rfl (by rfl) ?_ ?_
  rotate_left 1
  · intro w hS
    (try dsimp only at hS)
    go_simp
    all_goals with_reducible rfl
  simp only [Act.put, List.setIfInBounds_toArray, List.set_cons_zero, List.set_cons_succ]
  refine any_take (v := ?_) wqc_t65535_18 (by kernel_rfl) (fun _ _ _ _ _ h => h) (KS.out _ K0) rfl rfl (by rfl) ?_ ?_
  rotate_left 1
  · intro w hS
    (try dsimp only at hS)
    go_simp
    all_goals with_reducible rfl
  simp only [Act.put, List.setIfInBounds_toArray, List.set_cons_zero, List.set_cons_succ]
  refine any_take (v := ?_) wqc_t327679_19 (by kernel_rfl) (fun _ _ _ _ _ h => h) (KS.out _ K0) rfl rfl (by rfl) ?_ ?_
  rotate_left 1
  · intro w hS
    (try dsimp only at hS)
    go_simp
    all_goals with_reducible rfl
  simp only [Act.put, List.setIfInBounds_toArray, List.set_cons_zero, List.set_cons_succ]
  refine any_take (v := ?_) wqc_t851967_20 (by kernel_rfl) (fun _ _ _ _ _ h => h) (KS.out _ K0) rfl rfl (by rfl) ?_ ?_
  rotate_left 1
  · intro w hS
    (try dsimp only at hS)
    go_simp
    all_goals with_reducible rfl
  simp only [Act.put, List.setIfInBounds_toArray, List.set_cons_zero, List.set_cons_succ]
  refine any_take (v := ?_) wqc_t1900543_21 (by kernel_rfl) (fun _ _ _ _ _ h => h) (KS.out _ K0) rfl rfl (by rfl) ?_ ?_
  rotate_left 1
  · intro w hS
    (try dsimp only at hS)
    go_simp
    all_goals with_reducible rfl
  simp only [Act.put, List.setIfInBounds_toArray, List.set_cons_zero, List.set_cons_succ]
  refine any_take (v := ?_) wqc_t3997695_22 (by kernel_rfl) (fun _ _ _ _ _ h => h) (KS.out _ K0) rfl rfl (by rfl) ?_ ?_
  rotate_left 1
  · intro w hS
    (try dsimp only at hS)
    go_simp
    all_goals with_reducible rfl
  simp only [Act.put, List.setIfInBounds_toArray, List.set_cons_zero, List.set_cons_succ]
  refine any_one wqc_r8191999 ?_
  refine any_op rfl (by rfl) (fun K hK => ?_)
  go_simp
  refine (HE.out _ K0).mono ?_
  rintro E U1 ⟨rfl, k1⟩
  go_wp2_with fail
  refine hK.out _ _ (KS.out _ k1) ?_
  clear hK K
  try simp only [Act.put, List.setIfInBounds_toArray, List.set_cons_zero, List.set_cons_succ]
  refine any_take (v := ?_) wqc_t8257535_17 (by kernel_rfl) (fun _ _ _ _ _ h => h) (KS.out _ k1) rfl rfl (by rfl) ?_ ?_
  rotate_left 1
  · intro w hS
    (try dsimp only at hS)
    go_simp
    all_goals with_reducible rfl
  simp only [Act.put, List.setIfInBounds_toArray, List.set_cons_zero, List.set_cons_succ]
  refine any_one wqc_r8388607 ?_
  refine any_op rfl (by rfl) (fun K hK => ?_)
  go_simp
  refine (HF.out _ k1).mono ?_
  rintro E U2 ⟨ro, rn, rk, rs, rfl, RC, k2⟩
  go_wp2_with fail
  refine hK.out _ _ (KS.out _ k2) ?_
  clear hK K
  try simp only [Act.put, List.setIfInBounds_toArray, List.set_cons_zero, List.set_cons_succ]
  refine any_one wqc_r16777215 ?_
  refine any_op rfl (by rfl) (fun K hK => ?_)
  go_simp
  refine (HO.out _ k2 _ _ _ rs RC).mono ?_
  rintro E U3 ⟨pn, rfl, SK, k3⟩
  go_wp2_with fail
  refine hK.out _ _ (KS.out _ k3) ?_
  clear hK K
  try simp only [Act.put, List.setIfInBounds_toArray, List.set_cons_zero, List.set_cons_succ]
  refine any_take (v := ?_) wqc_t33554431_25 (by kernel_rfl) (fun _ _ _ _ _ h => h) (KS.out _ k3) rfl rfl (by rfl) ?_ ?_
  rotate_left 1
  · intro w hS
    (try dsimp only at hS)
    go_simp
    all_goals with_reducible rfl
  simp only [Act.put, List.setIfInBounds_toArray, List.set_cons_zero, List.set_cons_succ]
  refine any_take (v := ?_) wqc_t67108863_26 (by kernel_rfl) (fun _ _ _ _ _ h => h) (KS.out _ k3) rfl rfl (by rfl) ?_ ?_
  rotate_left 1
  · intro w hS
    (try dsimp only at hS)
    go_simp
    all_goals with_reducible rfl
  simp only [Act.put, List.setIfInBounds_toArray, List.set_cons_zero, List.set_cons_succ]
  refine any_take (v := ?_) wqc_t134217727_27 (by kernel_rfl) (fun _ _ _ _ _ h => h) (KS.out _ k3) rfl rfl (by rfl) ?_ ?_
  rotate_left 1
  · intro w hS
    (try dsimp only at hS)
    go_simp
    all_goals with_reducible rfl
  simp only [Act.put, List.setIfInBounds_toArray, List.set_cons_zero, List.set_cons_succ]
  refine any_take (v := ?_) wqc_t268435455_28 (by kernel_rfl) (fun _ _ _ _ _ h => h) (KS.out _ k3) rfl rfl (by rfl) ?_ ?_
  rotate_left 1
  · intro w hS
    (try dsimp only at hS)
    go_simp
    all_goals with_reducible rfl
  simp only [Act.put, List.setIfInBounds_toArray, List.set_cons_zero, List.set_cons_succ]
  refine any_take (v := ?_) wqc_t536870911_29 (by kernel_rfl) (fun _ _ _ _ _ h => h) (KS.out _ k3) rfl rfl (by rfl) ?_ ?_
  rotate_left 1
  · intro w hS
    (try dsimp only at hS)
    go_simp
    all_goals with_reducible rfl
  simp only [Act.put, List.setIfInBounds_toArray, List.set_cons_zero, List.set_cons_succ]
  refine any_take (v := ?_) wqc_t1073741823_30 (by kernel_rfl) (fun _ _ _ _ _ h => h) (KS.out _ k3) rfl rfl (by rfl) ?_ ?_
  rotate_left 1
  · intro w hS
    (try dsimp only at hS)
    go_simp
    all_goals with_reducible rfl
  simp only [Act.put, List.setIfInBounds_toArray, List.set_cons_zero, List.set_cons_succ]
  refine any_one wqc_r2147483647 ?_
  obtain ⟨V, hV, a12, f12, SV⟩ := PT.out _ pn k3 SK
  have SV := hide SV
  refine any_op rfl (by rfl) (fun K hK => ?_)
  go_simp
  go_wp2_with fail
  refine hK.out _ _ SV.out.1 ?_
  clear hK K
  try simp only [Act.put, List.setIfInBounds_toArray, List.set_cons_zero, List.set_cons_succ]
  refine any_take (v := ?_) wqc_t4294967295_32 (by kernel_rfl) (fun _ _ _ _ _ h => h) SV.out.1 rfl rfl (by rfl) ?_ ?_
  rotate_left 1
  · intro w hS
    (try dsimp only at hS)
    go_simp
    all_goals with_reducible rfl
  simp only [Act.put, List.setIfInBounds_toArray, List.set_cons_zero, List.set_cons_succ]
  refine any_done wqc_end ?_
  clear HE HF HO KS PT
  go_wp2
  go_ret
  exact ⟨rfl, pn, SV.out.2⟩

end Go.Proofs.YtajlhdmnincehaaGreatDoor

/- The program's restart (layer 21): Open. -/
namespace Go.Proofs.YtajlhdmnincehaaGreatDoor
open Go.RowKit
set_option linter.unusedVariables false

/-- In the midst of an Open that began in the world w: the disk, and the blocks of its own, which were laid in the world w5. -/
structure OpI (q : Nat) (F : Nat → Prop) (w w5 W : World) (n0 P : Nat) (Fk : Nat → Prop) (d : Dm.Ds) : Prop where
  dsk : Pk q Fk W d
  out : Out F w W
  far : ∀ g, Fk g → F g ∨ w.heap.size ≤ g
  mst : Mst W
  nb : ∀ g, g = n0 ∨ g = P ∨ g = P + 1 ∨ g = P + 2 → ¬ Fk g ∧ g < W.heap.size
  keep : ∀ g, g = n0 ∨ g = P + 1 ∨ g = P + 2 → W.heap[g]? = w5.heap[g]?

section
variable {q n0 P : Nat} {F Fk F' : Nat → Prop} {w w5 W W' : World} {d d' : Dm.Ds}

theorem OpI.step (h : OpI q F w w5 W n0 P Fk d) (h0 : ¬ F 0) (hp : 0 < w.heap.size) (hP : w.heap.size ≤ P) (hn : n0 < P) (k1 : Pk q F' W' d') (k2 : Out (fun g => Fk g ∨ g = P) W W') (k3 : ∀ g, F' g → Fk g ∨ W.heap.size ≤ g) : OpI q F w w5 W' n0 P F' d' := by
  have hs := h.out.size
  have hz := k2.size
  refine ⟨k1, h.out.trans k2 fun g hg => ?_, fun g hg => ?_, mst_out h.mst k2 fun e => ?_, fun g hg => ⟨fun e => ?_, ?_⟩, fun g hg => (k2.block g (h.nb g ?_).2 fun e => ?_).trans (h.keep g hg)⟩
  · rcases hg with e | e
    · exact h.far g e
    · exact .inr (by omega)
  · rcases k3 g hg with e | e
    · exact h.far g e
    · exact .inr (by omega)
  · rcases e with e | e
    · rcases h.far 0 e with e | e
      · exact h0 e
      · omega
    · omega
  · rcases k3 g e with e | e
    · exact (h.nb g hg).1 e
    · have := (h.nb g hg).2; omega
  · have := (h.nb g hg).2; omega
  · rcases hg with e | e | e
    · exact .inl e
    · exact .inr (.inr (.inl e))
    · exact .inr (.inr (.inr e))
  · rcases e with e | e
    · exact (h.nb g (by rcases hg with e | e | e; exact .inl e; exact .inr (.inr (.inl e)); exact .inr (.inr (.inr e)))).1 e
    · rcases hg with k | k | k <;> omega

theorem OpI.below (h : OpI q F w w5 W n0 P Fk d) (h0 : ¬ F 0) (hp : 0 < w.heap.size) (hP : w.heap.size ≤ P) (hn : n0 < P) (hb : Below W.heap.size W W') : OpI q F w w5 W' n0 P Fk d :=
  h.step h0 hp hP hn (h.dsk.below hb) (Out.of_below hb) fun g hg => .inl hg
end


theorem sec_c (p q : Nat) (F : Nat → Prop) (w : World) (st : Dm.Ds) (ss : List Orp.Se) (h : Pk q F w st) (hs : Big 90000000 700000 st) (hp : w.cell? ⟨p, 0, none⟩ = some (.pointer (some ⟨q, 0, none⟩))) (hpl : p < w.heap.size) (ho : st.on = true) (h3 : Rst.hf 3 st = Orp.secs ss) (hr : ss = []) : ∀ W, Below w.heap.size w W →
    Calls Tryz.prog 138 #[.pointer (some ⟨p, 0, none⟩)] W fun E w' => E = .returned (.int .i64 (Orp.secs ss).length) ∧ Below W.heap.size W w' := by
  intro W hW
  subst hr
  have e : W.cell? ⟨p, 0, none⟩ = w.cell? ⟨p, 0, none⟩ := by have := hW.block p hpl; simp [World.cell?, this]
  exact psec_any p q F W st (h.below hW) hs (e.trans hp) ho h3

end Go.Proofs.YtajlhdmnincehaaGreatDoor

/- The program's restart (layer 21): Open, put together. -/
namespace Go.Proofs.YtajlhdmnincehaaGreatDoor
open Go.RowKit
set_option linter.unusedVariables false

theorem write_none (st : Dm.Ds) : ∃ e, Dm.write st 0 [] = (e, st) ∧ (e == 1) = false := by
  unfold Dm.write
  split
  · exact ⟨6, rfl, rfl⟩
  · rw [if_neg (by decide)]
    exact ⟨0, rfl, rfl⟩


set_option maxRecDepth 20000 in
set_option maxHeartbeats 4000000 in
theorem open_gen (q : Nat) (F : Nat → Prop) (w : World) (st : Dm.Ds) (node : Int) (h : Pk q F w st) (hm : Mst w) (h0 : ¬ F 0) (hB : Big 50000000 500000 st) (X : Nat → Int → World → Prop)
    (hrun : ∀ F2 w5 n0 P, n0 = w.heap.size → OpI q F w w5 w5 n0 P F2 st → w.heap.size ≤ P → n0 < P → w5.heap[n0]? = some (.cells #[.int .i64 node] 3 (0, 0)) → w5.heap[P + 1]? = some (.cells #[.pointer (some ⟨P, 0, none⟩)] 33 (0, 0)) → w5.heap[P]? = some (.cells (stC q false Pm.no (.pointer none) 0 (.pointer none) (.pointer none)) 107 (0, 0)) → Run (P + 2) (fun e W => W.heap[P + 1]? = w5.heap[P + 1]? ∧ X P e W) [.func (.func 68) #[] #[.pointer (some ⟨n0, 0, none⟩)], .func (.func 70) #[.pointer (some ⟨P, 0, none⟩)] #[], .func (.func 71) #[] #[.pointer (some ⟨P + 1, 0, none⟩), .pointer (some ⟨n0, 0, none⟩)], .func (.func 73) #[.pointer (some ⟨P, 0, none⟩)] #[], .func (.func 74) #[.pointer (some ⟨P, 0, none⟩)] #[], .func (.func 75) #[] #[.pointer (some ⟨P + 1, 0, none⟩)], .func (.func 78) #[.pointer (some ⟨P, 0, none⟩)] #[]] w5) :
    Calls Tryz.prog 38 #[.pointer (some ⟨q, 0, none⟩), .int .i64 node] w fun E w' => ∃ P e, Hid (X P e w') ∧ (e ≠ 0 ∧ E = .returned (.tuple #[.pointer none, .int .i64 e]) ∨ e = 0 ∧ E = .returned (.tuple #[.pointer (some ⟨P, 0, none⟩), .int .i64 0])) := by
  have hmf : ∀ (fn : Fn) (first cap : Array Value) (w : World), (Instr.makeFunc fn first cap).run Tryz.prog w = .ok (.func fn first cap) w := fun _ _ _ _ => rfl
  have hp := hm.pos
  obtain ⟨w1, hw1, s1, b1, P1⟩ := blk_step w #[.int .i64 node] 3
  obtain ⟨e0, hwe, he0⟩ := write_none st
  have WR : Hid (Calls Tryz.prog 44 #[.pointer (some ⟨q, 0, none⟩), .int .i64 0, .slice none 0 0] w1 fun E w' => E = .returned (.int .i64 e0) ∧ PStep q F w1 w' st) := hide (by
    have := write_any q F w1 st 0 (.slice none 0 0) [] (h.below b1) (Is.nil _ _) (fun k => by simp at k) (by simp) (by have := hB.1.2.1; simp [cnt]; omega) hB.2 (by have := hB.1.2.2; simp [cnt]; omega)
    rw [hwe] at this
    exact this)
  have HH := hide (And.intro h (And.intro hm (And.intro b1 P1)))
  have HR := hide hrun
  clear h hm hB b1 P1 hwe hrun
  go_enter Tryz.func38, Tryz.ntmps38
  go_wp2_with fail
  refine WR.out.mono ?_
  rintro E w2 ⟨rfl, F2, k1, k2, k3⟩
  clear WR
  obtain ⟨h, hm, b1, P1⟩ := HH.out
  have hF := h.lt
  have z2 := k2.size
  obtain ⟨P, hP⟩ : ∃ P, w2.heap.size = P := ⟨_, rfl⟩
  obtain ⟨w3, hw3, s3, b3, P3⟩ := blk_step w2 (stC q false Pm.no (.pointer none) 0 (.pointer none) (.pointer none)) 107
  obtain ⟨w4, hw4, hw4', s4, b4, P4⟩ := box_one w3 33 (.pointer none) (.pointer (some ⟨P, 0, none⟩))
  obtain ⟨n0, hn0⟩ : ∃ n, w.heap.size = n := ⟨_, rfl⟩
  obtain ⟨w5, hw5, s5, b5, P5⟩ := blk_step w4 #[.func (.func 68) #[] #[.pointer (some ⟨n0, 0, none⟩)], .func (.func 70) #[.pointer (some ⟨P, 0, none⟩)] #[], .func (.func 71) #[] #[.pointer (some ⟨P + 1, 0, none⟩), .pointer (some ⟨n0, 0, none⟩)], .func (.func 73) #[.pointer (some ⟨P, 0, none⟩)] #[], .func (.func 74) #[.pointer (some ⟨P, 0, none⟩)] #[], .func (.func 75) #[] #[.pointer (some ⟨P + 1, 0, none⟩)], .func (.func 78) #[.pointer (some ⟨P, 0, none⟩)] #[]] 172
  have z3 : w3.heap.size = P + 1 := by omega
  have z4 : w4.heap.size = P + 2 := by omega
  have z5 : w5.heap.size = P + 3 := by omega
  rw [hP] at P3
  rw [z3] at P4
  rw [z4] at P5
  have b25 : Below w2.heap.size w2 w5 := (b3.trans (b4.mono (by omega))).trans (b5.mono (by omega))
  have n1 : w1.heap.size = n0 + 1 := by omega
  have nF2 : ¬ F2 n0 := fun e => by
    rcases k3 n0 e with e | e
    · have := hF n0 e; omega
    · omega
  have lF2 := k1.lt
  have c1 : w2.heap[n0]? = some (.cells #[.int .i64 node] 3 (0, 0)) := (k2.block n0 (by omega) fun e => by have := hF n0 e; omega).trans (by rw [← hn0]; exact P1)
  have I5 : OpI q F w w5 w5 n0 P F2 st := by
    refine ⟨k1.below b25, ((Out.of_below b1).trans k2 fun g hg => .inl hg).trans (Out.of_below (F := fun _ => False) b25) fun g hg => hg.elim, fun g hg => (k3 g hg).imp id fun e => by omega, (mst_out (hm.below b1) k2 h0).below b25, ?_, fun g hg => rfl⟩
    rintro g (rfl | rfl | rfl | rfl)
    · exact ⟨nF2, by omega⟩
    · exact ⟨fun e => by have := lF2 _ e; omega, by omega⟩
    · exact ⟨fun e => by have := lF2 _ e; omega, by omega⟩
    · exact ⟨fun e => by have := lF2 _ e; omega, by omega⟩
  have q1 := (b5.block (P + 1) (by omega)).trans P4
  have RUN := HR.out F2 w5 n0 P hn0.symm I5 (by omega) (by omega) ((b25.block n0 (by omega)).trans c1) q1 ((b5.block P (by omega)).trans ((b4.block P (by omega)).trans P3))
  have Ioq := hide (inorder_any (P + 2) 7 _ w5 _ rfl (by omega) P5 RUN)
  have Q1 := hide q1
  have c4 : w4.cell? ⟨P + 1, 0, none⟩ = some (.pointer (some ⟨P, 0, none⟩)) := blk_cell P4 0 rfl
  unfold stC Pm.no at hw3
  simp only at hw3
  rw [hn0]
  clear HR HH RUN I5 q1 P1 P3 P4 P5 b1 b3 b4 b5 b25 k1 k2 k3 nF2 lF2 c1 h hm hF n1 z5 s3 s4 s5 z2 hp h0
  go_wp2_with fail
  refine Ioq.out.mono ?_
  rintro E W ⟨e, rfl, hk, hX⟩
  have cW : W.cell? ⟨P + 1, 0, none⟩ = some (.pointer (some ⟨P, 0, none⟩)) := blk_cell (hk.trans Q1.out) 0 rfl
  have HX := hide hX
  clear Ioq Q1 hk hX
  by_cases he : e = 0
  · subst he
    go_wp2
    go_ret2
    exact ⟨P, 0, HX, .inr ⟨rfl, rfl⟩⟩
  · have he' : (e == 0) = false := by simpa using he
    go_wp2
    go_ret2
    exact ⟨P, e, HX, .inl ⟨he, rfl⟩⟩




end Go.Proofs.YtajlhdmnincehaaGreatDoor

/- Files that hold nothing, read (layers 9 to 13, 21). -/
namespace Go.Proofs.YtajlhdmnincehaaGreatDoor
open Go.RowKit
set_option linter.unusedVariables false

set_option maxRecDepth 20000 in
set_option maxHeartbeats 1000000 in
theorem wread0_any (vb : Value) (w : World) (hb : Is .u8 w vb []) :
    Calls Tryz.prog 194 #[vb] w fun E w' => E = .returned (.agg #[.slice none 0 0, .slice none 0 0]) ∧ Below w.heap.size w w' := by
  obtain ⟨w1, hw1, sz1, bel1, hR⟩ := blk_step w #[.slice none 0 0, .slice none 0 0] 190
  obtain ⟨w2, hw2, sz2, bel2, hL⟩ := blk_step w1 #[.slice none 0 0, .slice none 0 0] 190
  have b02 := bel1.trans (bel2.mono (by omega))
  have hR2 := (bel2.block _ (by omega)).trans hR
  rw [sz1] at hL
  have HF := hide (fread_any vb [] w2 (hb.below b02) (by simp))
  have HH := hide (And.intro b02 (And.intro hR2 hL))
  obtain ⟨ba, bc, hvb, _, _⟩ := hb.shape
  clear hb bel1 bel2 hR hL hR2 b02
  subst hvb
  go_enter Tryz.func194, Tryz.ntmps194
  go_wp2
  go_loopw [0] (fun fv wr => fv = .slice ba ([] : List Int).length bc ∧ wr = w2) (fun _ _ => 0)
  case atStart => exact ⟨rfl, rfl⟩
  case round =>
    obtain ⟨rfl, hwr⟩ := hrel
    subst hwr
    go_wp2_with fail
    refine HF.out.mono ?_
    rintro E wa ⟨v1, z, n, e, rfl, own1, bel1, R⟩
    obtain ⟨rfl, rfl, rfl⟩ := rd_none R.out
    obtain ⟨b02, hR, hL⟩ := HH.out
    have BA := hide (b02.trans (bel1.mono b02.size))
    have hR1 := (bel1.block _ (by omega)).trans hR
    have hL1 := (bel1.block _ (by omega)).trans hL
    have c0 : wa.cell? ⟨w.heap.size + 1, 0, none⟩ = some (.slice none 0 0) := blk_cell hL1 0 rfl
    have c1 : wa.cell? ⟨w.heap.size + 1, 1, none⟩ = some (.slice none 0 0) := blk_cell hL1 1 rfl
    have a0 : wa.cell? ⟨w.heap.size, 0, none⟩ = some (.slice none 0 0) := blk_cell hR1 0 rfl
    have a1 : wa.cell? ⟨w.heap.size, 1, none⟩ = some (.slice none 0 0) := blk_cell hR1 1 rfl
    have f0 := blk_froz hR1 0
    have f1 := blk_froz hR1 1
    have s0 : wa.setCell ⟨w.heap.size, 0, none⟩ (.slice none 0 0) = wa := set_same hR1 (j := 0) rfl
    have s1 : wa.setCell ⟨w.heap.size, 1, none⟩ (.slice none 0 0) = wa := set_same hR1 (j := 1) rfl
    obtain ⟨o1, k1, hv1, _, _⟩ := own1.is.shape
    subst hv1
    clear own1 bel1 R b02 hR hL hR1 hL1 HH HF
    go_wp2
    try rw [Exit.noGoto_ret]
    refine bodyPost_ret (v := .agg #[.slice none 0 0, .slice none 0 0]) (by simp [results, Tryz.results194, go_sem, a0, a1]) rfl ?_
    exact ⟨rfl, BA.out⟩

set_option maxRecDepth 20000 in
set_option maxHeartbeats 1000000 in
theorem hscan0_any (vb : Value) (bs : List Int) (w : World) (hb : Is .u8 w vb bs) (h0 : bs = []) :
    Calls Tryz.prog 201 #[vb] w fun E w' => E = .returned (.tuple #[.slice none 0 0, .int .i64 0]) ∧ Below w.heap.size w w' := by
  obtain ⟨n, hn⟩ : ∃ n : Nat, n = 0 := ⟨0, rfl⟩
  have hl : bs.length ≤ 1000 := by simp [h0]
  have hle : n ≤ bs.length := by omega
  have H0 := hide h0
  have HN := hide hn
  obtain ⟨vs, hsl, isl⟩ := hb.slice_l Tryz.elemB3 Tryz.sizeB3 n hle
  have HF := hide (fread_any vs _ w isl (by rw [List.length_drop]; omega))
  obtain ⟨ba, bc, hvb, _, _⟩ := hb.shape
  clear hb isl hn h0
  subst hvb
  go_enter Tryz.func201, Tryz.ntmps201
  go_wp2
  go_loopw [2, 3] (fun lv gv wr => lv = .slice none 0 0 ∧ gv = .int .i64 n ∧ wr = w) (fun _ _ _ => 0)
  case atStart => exact ⟨rfl, by rw [HN.out]; rfl, rfl⟩
  case round =>
    obtain ⟨rfl, rfl, hwr⟩ := hrel
    subst hwr
    go_wp2_with fail
    refine HF.out.mono ?_
    rintro E wa ⟨v1, z, k, e, rfl, own1, bel1, R⟩
    have R' := R.out
    rw [H0.out, List.drop_nil] at R'
    obtain ⟨rfl, rfl, rfl⟩ := rd_none R'
    have BA := hide bel1
    obtain ⟨o1, k1, hv1, _, _⟩ := own1.is.shape
    subst hv1
    clear own1 bel1 R R' HF hsl
    go_wp2
    go_ret2
    exact ⟨by rw [HN.out]; rfl, BA.out⟩

set_option maxRecDepth 100000 in
set_option maxHeartbeats 2000000 in
theorem pread0_any (vb : Value) (w : World) (hb : Is .u8 w vb []) :
    Calls Tryz.prog 198 #[vb] w fun E w' => ∃ (y : Pm.Pg) (m : Nat), E = .returned (.tuple #[.agg #[.int .i64 y.e, .int .u8 y.r, .int .i64 y.a, .int .u8 y.p, .int .i64 y.f, .int .i64 y.b], .int .i64 m, .int .i64 5]) ∧ Below w.heap.size w w' := by
  obtain ⟨w1, hw1, sz1, bel1, hR1⟩ := blk_step w #[.int .i64 0, .int .u8 0, .int .i64 0, .int .u8 0, .int .i64 0, .int .i64 0] 60
  have hb1 := hb.below bel1
  have HB := hide hR1
  obtain ⟨ao, cap, rfl, _, _⟩ := hb.shape
  clear hR1 hb
  go_enter Tryz.func198, Tryz.ntmps198
  go_wp2_with fail
  refine (fread_any _ [] _ hb1 (by simp)).mono ?_
  rintro E w2 ⟨v2, r, n, e, rfl, own2, bel2, R2⟩
  have B2 := (bel2.block _ (blk_lt HB.out)).trans HB.out
  have bel02 := hide (bel1.trans (bel2.mono (by omega)))
  obtain ⟨rfl, rfl, rfl⟩ := rd_none R2.out
  obtain ⟨z0, z1, z2, z3, z4, z5⟩ := six_of B2
  have s0 : w2.setCell ⟨w.heap.size, 0, none⟩ (.int .i64 0) = w2 := set_same B2 (j := 0) rfl
  have s1 : w2.setCell ⟨w.heap.size, 1, none⟩ (.int .u8 0) = w2 := set_same B2 (j := 1) rfl
  have s2 : w2.setCell ⟨w.heap.size, 2, none⟩ (.int .i64 0) = w2 := set_same B2 (j := 2) rfl
  have s3 : w2.setCell ⟨w.heap.size, 3, none⟩ (.int .u8 0) = w2 := set_same B2 (j := 3) rfl
  have s4 : w2.setCell ⟨w.heap.size, 4, none⟩ (.int .i64 0) = w2 := set_same B2 (j := 4) rfl
  have s5 : w2.setCell ⟨w.heap.size, 5, none⟩ (.int .i64 0) = w2 := set_same B2 (j := 5) rfl
  have f0 := blk_froz B2 0; have f1 := blk_froz B2 1; have f2 := blk_froz B2 2; have f3 := blk_froz B2 3; have f4 := blk_froz B2 4; have f5 := blk_froz B2 5
  clear B2 R2 HB bel1 bel2 hb1 own2
  go_wp2
  refine bodyPost_ret (v := .tuple #[.agg #[.int .i64 0, .int .u8 0, .int .i64 0, .int .u8 0, .int .i64 0, .int .i64 0], .int .i64 0, .int .i64 5]) (by simp [results, Tryz.results198, go_sem, z0, z1, z2, z3, z4, z5]) rfl ?_
  exact ⟨Pm.no, 0, rfl, bel02.out⟩

set_option maxRecDepth 100000 in
set_option maxHeartbeats 4000000 in
theorem last0_any (vb : Value) (bs : List Int) (node : Int) (w : World) (hb : Is .u8 w vb bs) (h0 : bs = []) (hn : fse node = 0) :
    Calls Tryz.prog 133 #[vb, .int .i64 node] w fun E w' => E = .returned (.tuple #[vp (fst node), .int .i64 0, .int .i64 0]) ∧ Below w.heap.size w w' := by
  unfold vp
  obtain ⟨w1, hw1, sz1, bel1, hR1⟩ := blk_step w #[.int .i64 0, .int .u8 0, .int .i64 0, .int .u8 0, .int .i64 0, .int .i64 0] 60
  obtain ⟨n, hn0⟩ : ∃ n : Nat, n = 0 := ⟨0, rfl⟩
  have hl : bs.length ≤ 1000 := by simp [h0]
  have hle : n ≤ bs.length := by omega
  have H0 := hide h0
  have HN := hide hn0
  have HBS := hide hb
  have HB := hide hR1
  have FI := hide (first_any node w1)
  rw [hn] at FI
  unfold vp at FI
  obtain ⟨ao, cap, rfl, _, _⟩ := hb.shape
  clear hR1 hb hn h0 hn0
  go_enter Tryz.func133, Tryz.ntmps133
  go_wp2_with fail
  refine FI.out.mono ?_
  rintro E w2 ⟨rfl, bel2⟩
  have sz2 := bel2.size
  have HB2 := hide ((bel2.block _ (blk_lt HB.out)).trans HB.out)
  have bel02 := bel1.trans (bel2.mono (by omega))
  obtain ⟨x, hx⟩ : ∃ p, fst node = p := ⟨_, rfl⟩
  rw [hx]
  have HX := hide hx
  clear hx
  obtain ⟨w3, hw3', hw3, sz3, bel3, hP, e0, e1, e2, e3, e4, e5⟩ := new6 w2 60 (.int .i64 0) (.int .u8 0) (.int .i64 0) (.int .u8 0) (.int .i64 0) (.int .i64 0) (.int .i64 x.e) (.int .u8 x.r) (.int .i64 x.a) (.int .u8 x.p) (.int .i64 x.f) (.int .i64 x.b)
  have B3 := (bel3.block _ (blk_lt HB2.out)).trans HB2.out
  have bel03 := bel02.trans (bel3.mono (by omega))
  have hlt := blk_lt HB2.out
  have hlp := blk_lt hP
  obtain ⟨vs, hsl, isl⟩ := (HBS.out.below bel03).slice_l Tryz.elemB Tryz.sizeE n hle
  have PR := hide (pread0_any vs w3 (by have := isl; rw [H0.out, List.drop_nil] at this; exact this))
  have HH := hide (And.intro B3 (And.intro hP bel03))
  clear HB HB2 bel1 bel2 bel02 bel3 B3 hP bel03 HBS FI isl
  go_wp2
  go_loopw [9] (fun ee wr => ee = .int .i64 n ∧ wr = w3) (fun _ _ => 0)
  case atStart => exact ⟨by rw [HN.out]; rfl, rfl⟩
  case round =>
    obtain ⟨rfl, hwr⟩ := hrel
    subst hwr
    go_wp2_with fail
    refine PR.out.mono ?_
    rintro E w4 ⟨y, m, rfl, bel4⟩
    obtain ⟨B3, hP, bel03⟩ := HH.out
    have R4 := (bel4.block _ (by omega)).trans B3
    have L4 := (bel4.block _ hlp).trans hP
    have bel04 := bel03.trans (bel4.mono bel03.size)
    obtain ⟨w5, hw5', hw5, sz5, bel5, hP5, p0, p1, p2, p3, p4, p5⟩ := new6 w4 60 (.int .i64 0) (.int .u8 0) (.int .i64 0) (.int .u8 0) (.int .i64 0) (.int .i64 0) (.int .i64 y.e) (.int .u8 y.r) (.int .i64 y.a) (.int .u8 y.p) (.int .i64 y.f) (.int .i64 y.b)
    have s4 := bel4.size
    have R5 := (bel5.block _ (by omega)).trans R4
    have L5 := (bel5.block _ (by omega)).trans L4
    have bel05 := bel04.trans (bel5.mono (by omega))
    obtain ⟨V, hV, bV, gV, ⟨a0, a1, a2, a3, a4, a5⟩, fr, ⟨z0, z1, z2, z3, z4, z5⟩⟩ := put6 R5 (.int .i64 x.e) (.int .u8 x.r) (.int .i64 x.a) (.int .u8 x.p) (.int .i64 x.f) (.int .i64 x.b)
    have f0 := fr 0; have f1 := fr 1; have f2 := fr 2; have f3 := fr 3; have f4 := fr 4; have f5 := fr 5
    obtain ⟨l0, l1, l2, l3, l4, l5⟩ := six_of L5
    have belV := hide (below_put bel05 gV (by omega) (by omega))
    clear B3 hP bel03 R4 L4 bel4 bel04 bel5 hP5 R5 L5 bel05 bV gV fr HH PR hsl e0 e1 e2 e3 e4 e5 hw3 hw3'
    go_wp2
    refine bodyPost_ret (v := .tuple #[.agg #[.int .i64 x.e, .int .u8 x.r, .int .i64 x.a, .int .u8 x.p, .int .i64 x.f, .int .i64 x.b], .int .i64 n, .int .i64 0]) (by simp [results, Tryz.results133, go_sem, z0, z1, z2, z3, z4, z5]) rfl ?_
    exact ⟨by rw [HN.out, HX.out]; rfl, belV.out⟩

end Go.Proofs.YtajlhdmnincehaaGreatDoor
