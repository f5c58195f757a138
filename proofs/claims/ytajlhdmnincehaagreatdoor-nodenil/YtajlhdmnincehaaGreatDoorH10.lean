/- Texts of one layer, one behind the other. -/
import Derived.Test.YtajlhdmnincehaaGreatDoorH9
import Derived.Test.YtajlhdmnincehaaGreatDoorH6
import Derived.Test.YtajlhdmnincehaaGreatDoorH5
import Derived.Test.YtajlhdmnincehaaGreatDoorH8
import Derived.Test.YtajlhdmnincehaaGreatDoorH2
import Derived.BigQuiet
import Derived.Test.YtajlhdmnincehaaGreatDoorM2
import Derived.Test.YtajlhdmnincehaaGreatDoorH11
import Derived.Test.YtajlhdmnincehaaGreatDoorM4
/- The program's disk: Write. -/
namespace Go.Proofs.YtajlhdmnincehaaGreatDoor
open Go.RowKit Go.Shelf
set_option linter.unusedVariables false
attribute [local go_sem] Oper.semAt_some

/-- Raw writes, one behind the other. -/
def wgo (file : Nat) : Dm.Ds → List (List Int) → Int × Dm.Ds
  | st, [] => (0, st)
  | st, c :: cs => if Dm.off st then (6, Dm.dark st) else wgo file (Dm.push (Dm.burn st) ⟨file, false, 0, c⟩) cs

theorem wgo_01 (file : Nat) : ∀ (cs : List (List Int)) (st : Dm.Ds), (wgo file st cs).1 = 0 ∨ (wgo file st cs).1 = 6
  | [], _ => .inl rfl
  | c :: cs, st => by
    rw [wgo]
    split
    · exact .inr rfl
    · exact wgo_01 file cs _

theorem wgo_stop (file : Nat) : ∀ (a : List (List Int)) (b : List (List Int)) (st : Dm.Ds), (wgo file st a).1 = 6 → wgo file st (a ++ b) = wgo file st a
  | [], b, st, h => by simp [wgo] at h
  | c :: a, b, st, h => by
    rw [List.cons_append, wgo]
    rw [wgo] at h ⊢
    split
    · rfl
    · rename_i ho
      rw [if_neg ho] at h
      exact wgo_stop file a b _ h

theorem wgo_snoc (file : Nat) (c : List Int) : ∀ (a : List (List Int)) (st : Dm.Ds), (wgo file st a).1 = 0 → wgo file st (a ++ [c]) = if Dm.off (wgo file st a).2 then (6, Dm.dark (wgo file st a).2) else (0, Dm.push (Dm.burn (wgo file st a).2) ⟨file, false, 0, c⟩)
  | [], st, h => rfl
  | d :: a, st, h => by
    rw [List.cons_append, wgo]
    rw [wgo] at h ⊢
    split
    · rename_i ho
      rw [if_pos ho] at h
      simp at h
    · rename_i ho
      rw [if_neg ho] at h
      exact wgo_snoc file c a _ h

theorem wgo_size (file : Nat) : ∀ (a : List (List Int)) (st : Dm.Ds), (wgo file st a).2.wait.length ≤ st.wait.length + a.length ∧ (wgo file st a).2.count ≤ st.count + a.length ∧ (wgo file st a).2.left ≤ st.left
  | [], st => by simp [wgo]
  | c :: a, st => by
    rw [wgo]
    split
    · simp [Dm.dark]
    · obtain ⟨h1, h2, h3⟩ := wgo_size file a (Dm.push (Dm.burn st) ⟨file, false, 0, c⟩)
      have e1 : (Dm.push (Dm.burn st) ⟨file, false, 0, c⟩).wait.length = st.wait.length + 1 := by simp [Dm.push, Dm.burn]
      have e2 : (Dm.push (Dm.burn st) ⟨file, false, 0, c⟩).count = st.count + 1 := rfl
      have e3 : (Dm.push (Dm.burn st) ⟨file, false, 0, c⟩).left ≤ st.left := by simp only [Dm.push, Dm.burn]; split <;> omega
      rw [List.length_cons]
      refine ⟨by omega, by omega, by omega⟩

def pieces : Nat → List Int → List (List Int)
  | 0, _ => []
  | n + 1, bs => if bs = [] then [] else bs.take 64 :: pieces n (bs.drop 64)

theorem wrt_pieces (file : Nat) : ∀ (n : Nat) (st : Dm.Ds) (bs : List Int), Dm.wrt file n st bs = wgo file st (pieces n bs)
  | 0, st, bs => rfl
  | n + 1, st, bs => by
    rw [Dm.wrt, pieces]
    by_cases h : bs = []
    · rw [if_pos h, if_pos h]; rfl
    · rw [if_neg h, if_neg h, wgo]
      split
      · rfl
      · exact wrt_pieces file n _ _

def ck (bs : List Int) (i : Nat) : List Int := (bs.drop (i * 64)).take 64

theorem pieces_eq : ∀ (n : Nat) (bs : List Int), bs.length ≤ n → pieces n bs = (List.range (cnt bs.length)).map (ck bs)
  | 0, bs, h => by
    have : bs.length = 0 := by omega
    rw [this]
    rfl
  | n + 1, bs, h => by
    rw [pieces]
    by_cases hb : bs = []
    · subst hb; rfl
    · rw [if_neg hb]
      have h1 : 0 < bs.length := List.length_pos_iff.2 hb
      have e : cnt bs.length = cnt (bs.drop 64).length + 1 := by rw [List.length_drop]; unfold cnt; omega
      rw [e, List.range_succ_eq_map, List.map_cons, List.map_map, pieces_eq n (bs.drop 64) (by rw [List.length_drop]; omega)]
      congr 1
      apply List.map_congr_left
      intro i _
      simp only [ck, Function.comp, List.drop_drop]
      congr 2
      omega

theorem up_map (L : Nat) (f : Nat → List Int) : ∀ k, k ≤ cnt L → (up L k).map (fun x => f x.1) = (List.range k).map f
  | 0, _ => rfl
  | k + 1, h => by
    have h1 : k * 64 < L := by unfold cnt at h; omega
    rw [up_next L k h1, List.map_append, up_map L f k (by omega), List.range_succ, List.map_append]
    rfl

def cks (bs : List Int) {L : Nat} (pre : List (Cx L)) : List (List Int) := pre.map fun x => ck bs x.1

theorem cks_snoc (bs : List Int) {L : Nat} (pre : List (Cx L)) (x : Cx L) : cks bs (pre ++ [x]) = cks bs pre ++ [ck bs x.1] := by simp [cks]

theorem cks_all (bs : List Int) : cks bs (up bs.length (cnt bs.length)) = pieces bs.length bs := by
  unfold cks
  rw [up_map _ _ _ (Nat.le_refl _), pieces_eq _ _ (Nat.le_refl _)]

theorem up_pre (L k : Nat) : ∀ j, ∃ r, up L (k + j) = up L k ++ r
  | 0 => ⟨[], by simp⟩
  | j + 1 => by
    obtain ⟨r, hr⟩ := up_pre L k j
    exact ⟨r ++ (if h : (k + j) * 64 < L then [⟨k + j, h⟩] else []), by rw [← Nat.add_assoc, up, hr, List.append_assoc]⟩

theorem ck_len (bs : List Int) (i : Nat) : (ck bs i).length = min 64 (bs.length - i * 64) := by simp [ck]

theorem ch_is {W : World} {b off cap : Nat} {bs : List Int} (h : Is .u8 W (.slice (some ⟨b, off, none⟩) bs.length cap) bs) (i : Nat) (hi : i * 64 < bs.length) : Is .u8 W (chv b off bs.length i) (ck bs i) := by
  have hs := h.sub (i * 64) (i * 64 + min 64 (bs.length - i * 64)) (by omega) (by omega)
  have e1 : i * 64 + min 64 (bs.length - i * 64) - i * 64 = min 64 (bs.length - i * 64) := by omega
  rw [e1] at hs
  have e2 : (bs.drop (i * 64)).take (min 64 (bs.length - i * 64)) = ck bs i := by
    unfold ck
    by_cases h1 : 64 ≤ bs.length - i * 64
    · rw [Nat.min_eq_left h1]
    · rw [Nat.min_eq_right (by omega), List.take_of_length_le (by rw [List.length_drop]; omega), List.take_of_length_le (by rw [List.length_drop]; omega)]
  rw [e2] at hs
  obtain ⟨b', off', cap', hv, h1, h2, _, hc⟩ := hs.full (by rw [ck_len]; omega)
  simp only [Value.slice.injEq, Option.some.injEq, Addr.mk.injEq, and_true] at hv
  obtain ⟨⟨rfl, rfl⟩, hl, rfl⟩ := hv
  refine ⟨hs.1, .inr ⟨⟨b, off + i * 64, none⟩, min 64 (bs.length - i * 64), by rw [ck_len]; rfl, by rw [ck_len]; exact Nat.le_refl _, by unfold maxLen; omega, fun j hj => ?_⟩⟩
  rw [add_at]
  exact hc j hj

theorem KeepsOthers.of_out {F : Nat → Prop} {W W' : World} (h : Out F W W') (hc : ∀ g, F g → ∃ cs t fr, W.heap[g]? = some (.cells cs t fr)) : KeepsOthers W W' :=
  ⟨h.size, fun k o hk ho => by
    refine (h.block k (Array.getElem?_eq_some_iff.1 hk).1 fun hF => ?_).trans hk
    obtain ⟨cs, t, fr, h1⟩ := hc k hF
    rw [hk] at h1
    cases h1
    simp [Obj.isCells] at ho⟩

/-- Between two raw writes. -/
def WI (p : Nat) (F : Nat → Prop) (W0 : World) (st : Dm.Ds) (f : Nat) (bs : List Int) (e : Int) (G : Nat → Prop) (pre : List (Cx bs.length)) (W : World) : Prop :=
  ∃ F', Pk p F' W (wgo f st (cks bs pre)).2 ∧ (wgo f st (cks bs pre)).1 = e ∧ Out G W0 W ∧ ∀ g, F' g → F g ∨ W0.heap.size ≤ g

theorem WI.own {p : Nat} {F : Nat → Prop} {W0 : World} {st : Dm.Ds} {f : Nat} {bs : List Int} {e : Int} {G : Nat → Prop} : OwnFrom W0.heap.size (WI p F W0 st f bs e G) := by
  rintro s W W' row ⟨F', hP, he, hO, hs⟩ hg hr
  refine ⟨F', hP.agree fun g hgF => ?_, he, ?_, hs⟩
  · refine hg.block g (hP.lt g hgF) fun e1 => ?_
    obtain ⟨_, o, ho, hoc⟩ := hr g e1.symm
    obtain ⟨cs, t, fr, h1⟩ := hP.cel g hgF
    rw [ho] at h1
    cases h1
    simp [Obj.isCells] at hoc
  · exact hO.trans (Out.of_grown (F := fun g => row = some g) hg fun g h => h) fun g h => .inr (hr g h).1

theorem below_keeps {W W' : World} (h : Below W.heap.size W W') : KeepsOthers W W' := ⟨h.size, fun k o hk ho => (h.block k (Array.getElem?_eq_some_iff.1 hk).1).trans hk⟩

/-- A round: the bytes are copied, the raw write is done. -/
theorem round_do (p : Nat) (F : Nat → Prop) (W0 : World) (st : Dm.Ds) (f : Nat) (hf : f < 4) (bs : List Int) (hF : ∀ g, F g → g < W0.heap.size) (pre : List (Cx bs.length)) (x : Cx bs.length) (W : World) (hI : WI p F W0 st f bs 0 F pre W) (hlt : pre.length < cnt bs.length)
    (hw : st.wait.length + cnt bs.length ≤ 1000000) (hl : st.left ≤ 9223372036854775807) (hc : st.count + cnt bs.length < 9223372036854775807) (v1 : Value) (w1 : World) (own1 : Own .u8 5 W.heap.size w1 v1 (ck bs x.1)) (bel1 : Below W.heap.size W w1) :
    Calls Tryz.prog 88 #[.pointer (some ⟨p, 0, none⟩), .agg #[.int .i64 0, .int .i64 f, v1, .int .i64 0]] w1 fun E w2 => E = .returned (.int .i64 (wgo f st (cks bs (pre ++ [x]))).1) ∧ WI p F W0 st f bs (wgo f st (cks bs (pre ++ [x]))).1 F (pre ++ [x]) w2 ∧ KeepsOthers W w2 ∧ ∀ B, B < W0.heap.size → ¬ F B → w2.heap[B]? = W.heap[B]? := by
  obtain ⟨F', hP, he, hO, hs⟩ := hI
  obtain ⟨z1, z2, z3⟩ := wgo_size f (cks bs pre) st
  have hcl : (cks bs pre).length = pre.length := by simp [cks]
  have hx := x.2
  have hcx := ck_len bs x.1
  refine (dopush_any p F' w1 _ ⟨f, false, 0, v1, ck bs x.1⟩ (hP.below bel1) ⟨own1.is, fun b hb => ⟨trivial, by obtain ⟨cs, h1⟩ := own1.type hb; exact ⟨cs, _, h1⟩⟩⟩ (fun b hb hFb => by have h1 := (own1.block b hb).1; have h2 := hP.lt b hFb; omega) ⟨hf, fun h => by simp [Rv.r] at h, fun _ => by show 1 ≤ (ck bs x.1).length ∧ (ck bs x.1).length ≤ 64; omega⟩ (by omega) (by omega) (by omega)).mono ?_
  rintro E w2 ⟨rfl, F2, h1, h2, h3⟩
  have hsn := wgo_snoc f (ck bs x.1) (cks bs pre) st he
  rw [← cks_snoc, pair_if] at hsn
  have e1 : (wgo f st (cks bs (pre ++ [x]))).1 = if Dm.off (wgo f st (cks bs pre)).2 then 6 else 0 := by rw [hsn]
  have e2 : (wgo f st (cks bs (pre ++ [x]))).2 = if Dm.off (wgo f st (cks bs pre)).2 then Dm.dark (wgo f st (cks bs pre)).2 else Dm.push (Dm.burn (wgo f st (cks bs pre)).2) ⟨f, false, 0, ck bs x.1⟩ := by rw [hsn]
  have hO1 : Out F W0 w1 := hO.trans (Out.of_below (F := F) bel1) fun g hg => .inl hg
  refine ⟨by rw [e1], ⟨F2, by rw [e2]; exact h1, rfl, hO1.trans h2 hs, fun g hg => ?_⟩, (below_keeps bel1).trans (KeepsOthers.of_out h2 (hP.below bel1).cel), fun B hB hFB => ?_⟩
  · rcases h3 g hg with h | h | h
    · exact hs g h
    · exact .inr (Nat.le_trans hO1.size h)
    · exact .inr (Nat.le_trans hO.size (own1.block g h).1)
  · refine (h2.block B (Nat.lt_of_lt_of_le hB hO1.size) fun h => ?_).trans (bel1.block B (Nat.lt_of_lt_of_le hB hO.size))
    rcases hs B h with h4 | h4
    · exact hFB h4
    · omega

theorem Tryz.mixed : Tryz.prog.follows .mixedOrders = true := by kernel_rfl

theorem chunk_seq (n : Nat) (hn : 1 ≤ n) (Bs Bn b off cap : Nat) (bs : List Int) (sv : Value) (hsv : sv = .slice (some ⟨b, off, none⟩) bs.length cap ∨ (bs.length = 0 ∧ ∃ ao c, sv = .slice ao 0 c)) (hcap : bs.length ≤ cap) (hcm : cap ≤ maxLen) (hLm : bs.length ≤ 140737488355328) (w : World) (hs : Bs < w.heap.size) (hb : Bn < w.heap.size) (cs : w.cell? ⟨Bs, 0, none⟩ = some sv) (cn : w.cell? ⟨Bn, 0, none⟩ = some (.int .i64 64)) :
    SeqStopsK Fence.wide n Tryz.prog 153 #[.pointer (some ⟨Bs, 0, none⟩), .pointer (some ⟨Bn, 0, none⟩)] (fun x : Cx bs.length => #[chv b off bs.length x.1]) (Kc Bs Bn) (fun xs => xs = up bs.length (cnt bs.length)) (fun pre => ∃ k, k ≤ cnt bs.length ∧ pre = up bs.length k) (cnt bs.length) w := fun l J Jx W hW hJ hJx hY h0 =>
  chunk_one n hn l Bs Bn b off bs.length cap sv hsv hcap hcm hLm J Jx W hJ hY ((hW.cell (p := ⟨Bs, 0, none⟩) hs).trans cs) ((hW.cell (p := ⟨Bn, 0, none⟩) hb).trans cn) h0

theorem kc_b {Bs Bn : Nat} {w : World} (h1 : Bs < w.heap.size) (h2 : Bn < w.heap.size) (W : World) (l : Nat) (o o' : Obj) (hl : w.heap.size ≤ l) (h : W.heap[l]? = some o) (_ : o.isCells = false) (_ : o.isWalk = false) : Kc Bs Bn W (W.putObj l o') :=
  ⟨World.putObj_heap_other (by omega), World.putObj_heap_other (by omega)⟩

/-- The end: the result's cell is written, the rounds' deferred calls are taken. -/
theorem write_end {p : Nat} {F : Nat → Prop} {w W0 W : World} {st : Dm.Ds} {f : Nat} {bs : List Int} {e : Int} {pre : List (Cx bs.length)} {G : Nat → Prop} (bel : Below w.heap.size w W0) (hF : ∀ g, F g → g < w.heap.size) (hG : ∀ g, G g → F g ∨ w.heap.size ≤ g) (h : WI p F W0 st f bs e G pre W) {W2 : World} (F2 : Nat → Prop) (hO : Out F2 W W2) (hF2 : ∀ g, F2 g → w.heap.size ≤ g) (hF3 : ∀ g, F2 g → W0.heap.size ≤ g → ∃ o : Obj, W.heap[g]? = some o ∧ o.isCells = false) :
    PStep p F w W2 (wgo f st (cks bs pre)).2 := by
  obtain ⟨F', hP, he, hO1, hs⟩ := h
  refine ⟨F', hP.agree fun g hg => hO.block g (hP.lt g hg) fun h2 => ?_, ?_, fun g hg => ?_⟩
  · rcases hs g hg with h3 | h3
    · have := hF g h3; have := hF2 g h2; omega
    · obtain ⟨o, h4, h5⟩ := hF3 g h2 h3
      obtain ⟨cs, t, fr, h6⟩ := hP.cel g hg
      rw [h4] at h6
      cases h6
      simp [Obj.isCells] at h5
  · have q1 : Out F w W := (Out.of_below (F := F) bel).trans hO1 hG
    exact q1.trans hO fun g hg => .inr (hF2 g hg)
  · rcases hs g hg with h3 | h3
    · exact .inl h3
    · exact .inr (Nat.le_trans bel.size h3)

set_option maxRecDepth 100000 in
set_option maxHeartbeats 8000000 in
theorem wgo_any (p : Nat) (F : Nat → Prop) (w : World) (st : Dm.Ds) (f : Nat) (hf : f < 4) (vb : Value) (bs : List Int) (h : Pk p F w st) (hon : st.on = true) (hb : Is .u8 w vb bs) (hbF : 0 < bs.length → ∀ b, vb.ownBlock = some b → ¬ F b) (hLm : bs.length ≤ 1000000)
    (hw : st.wait.length + cnt bs.length ≤ 1000000) (hl : st.left ≤ 9223372036854775807) (hc : st.count + cnt bs.length < 9223372036854775807) :
    Calls Tryz.prog 44 #[.pointer (some ⟨p, 0, none⟩), .int .i64 f, vb] w fun E w' => E = .returned (.int .i64 (wgo f st (pieces bs.length bs)).1) ∧ PStep p F w w' (wgo f st (pieces bs.length bs)).2 := by
  obtain ⟨b, off, cap, hsv, hcap, hcm⟩ : ∃ b off cap, (vb = .slice (some ⟨b, off, none⟩) bs.length cap ∨ (bs.length = 0 ∧ ∃ ao c, vb = .slice ao 0 c)) ∧ bs.length ≤ cap ∧ cap ≤ maxLen := by
    by_cases h0 : 0 < bs.length
    · obtain ⟨b, off, cap, h1, h2, h3, _⟩ := hb.full h0
      exact ⟨b, off, cap, .inl h1, h2, h3⟩
    · obtain ⟨ao, cap, h1, h2, h3⟩ := hb.shape
      have h4 : bs.length = 0 := by omega
      exact ⟨0, 0, cap, .inr ⟨h4, ao, cap, by rw [h1, h4]⟩, h2, h3⟩
  obtain ⟨w1, hw1, sz1, bel1, B1⟩ := blk_step w #[.pointer (some ⟨p, 0, none⟩)] 32
  obtain ⟨w2, hw2, sz2, bel2, B2⟩ := blk_step w1 #[.int .i64 f] 3
  obtain ⟨w3, hw3, sz3, bel3, B3⟩ := blk_step w2 #[.int .i64 0] 39
  obtain ⟨w4, hw4, sz4, bel4, B4⟩ := blk_step w3 #[vb] 28
  obtain ⟨W0, hw5, sz5, bel5, B5⟩ := blk_step w4 #[.int .i64 64] 3
  rw [sz1] at B2 bel2
  rw [show w2.heap.size = w.heap.size + 2 by omega] at B3 bel3
  rw [show w3.heap.size = w.heap.size + 3 by omega] at B4 bel4
  rw [show w4.heap.size = w.heap.size + 4 by omega] at B5 bel5
  have bel03 : Below w.heap.size w w3 := (bel1.trans (bel2.mono (by omega))).trans (bel3.mono (by omega))
  have bel0 : Below w.heap.size w W0 := (bel03.trans (bel4.mono (by omega))).trans (bel5.mono (by omega))
  have HR := hide (refuses_any p F w3 st (h.below bel03))
  have HF := hide (isfile_any f w3)
  have hin : Dm.inF (f : Int) = true := by simp [Dm.inF]; omega
  rw [hin] at HF
  have hform := hb.form
  have HCH : Hid (Calls Tryz.prog 87 #[vb, .int .i64 64] w3 fun e w' => e = .returned (.func (.func 153) #[] #[.pointer (some ⟨w.heap.size + 3, 0, none⟩), .pointer (some ⟨w.heap.size + 4, 0, none⟩)]) ∧ W0 = w') := hide (by
    refine (chunk_any vb hform w3).mono ?_
    rintro e w' ⟨rfl, rfl⟩
    rw [show w3.heap.size = w.heap.size + 3 by omega]
    exact ⟨rfl, by rw [hw4, hw5]⟩)
  have hFw := h.lt
  have I0 : Hid (WI p F W0 st f bs 0 F [] W0) := hide ⟨F, h.below bel0, rfl, Out.refl _ _, fun g hg => .inl hg⟩
  have C0 : w3.cell? ⟨w.heap.size, 0, none⟩ = some (.pointer (some ⟨p, 0, none⟩)) := by
    have e1 := (bel2.block w.heap.size (by omega)).trans B1
    exact blk_cell ((bel3.block w.heap.size (by omega)).trans e1) 0 rfl
  have C1 : w3.cell? ⟨w.heap.size + 1, 0, none⟩ = some (.int .i64 f) := blk_cell ((bel3.block (w.heap.size + 1) (by omega)).trans B2) 0 rfl
  have D0 : W0.heap[w.heap.size]? = some (.cells #[.pointer (some ⟨p, 0, none⟩)] 32 (0, 0)) := (bel5.block _ (by omega)).trans ((bel4.block _ (by omega)).trans ((bel3.block _ (by omega)).trans ((bel2.block _ (by omega)).trans B1)))
  have D1 : W0.heap[w.heap.size + 1]? = some (.cells #[.int .i64 f] 3 (0, 0)) := (bel5.block _ (by omega)).trans ((bel4.block _ (by omega)).trans ((bel3.block _ (by omega)).trans B2))
  have D2 : W0.heap[w.heap.size + 2]? = some (.cells #[.int .i64 0] 39 (0, 0)) := (bel5.block _ (by omega)).trans ((bel4.block _ (by omega)).trans B3)
  have D3 : W0.heap[w.heap.size + 3]? = some (.cells #[vb] 28 (0, 0)) := (bel5.block _ (by omega)).trans B4
  have hisb : ∀ W, Out F W0 W → Is .u8 W vb bs := fun W hO => by
    by_cases h0 : 0 < bs.length
    · have h1 := hb.lt h0
      refine (hb.below bel0).agree fun g hg => hO.block g (Nat.lt_of_lt_of_le (h1 g hg) bel0.size) (hbF h0 g hg)
    · refine ⟨hb.1, ?_⟩
      rcases hb.2 with h1 | ⟨ad, cp, h1, h2, h3, _⟩
      · exact .inl h1
      · exact .inr ⟨ad, cp, h1, h2, h3, fun i hi => by omega⟩
  have HIB := hide hisb
  have hstay : ∀ W, Out F W0 W → ∀ B, w.heap.size ≤ B → B < W0.heap.size → W.heap[B]? = W0.heap[B]? := fun W hO B h1 h2 => hO.block B h2 fun h3 => by have := hFw B h3; omega
  have HST := hide hstay
  have hk := ask_on hon
  have SEQ := hide (chunk_seq 5 (by omega) (w.heap.size + 3) (w.heap.size + 4) b off cap bs vb hsv hcap hcm (by omega) W0 (by omega) (by omega) (blk_cell D3 0 rfl) (blk_cell B5 0 rfl))
  have HW : Hid (∀ g, F g → g < w.heap.size) := hide hFw
  have hmx := Tryz.mixed
  replace sz2 : w2.heap.size = w.heap.size + 2 := by omega
  replace sz3 : w3.heap.size = w.heap.size + 3 := by omega
  replace sz5 : W0.heap.size = w.heap.size + 5 := by omega
  obtain ⟨va, vn, vc, hvf⟩ := hform
  have HVF := hide hvf
  have HVB := hide hsv
  have DD := hide (And.intro D0 (And.intro D1 D2))
  clear h hb hsv D3 B1 B2 B3 B4 B5 hisb hstay hFw hbF D0 D1 D2 hw4 hw5 sz4 bel4 bel5 hvf
  refine (callsIn_wide (n := 6)).1 ?_
  refine callsIn_of_wp_marks Tryz.func44 rfl trivial ?_ rfl
  simp only [Tryz.ntmps44, List.size_toArray, List.length_cons, List.length_nil, Nat.reduceAdd, Nat.reduceSub, Array.replicate_succ, Array.replicate_zero, List.push_toArray, List.append_toArray, List.nil_append, List.cons_append]
  gi_wp2_with fail
  refine ⟨trivial, (callsIn_wide.2 HR.out).mono ?_⟩
  rintro E w' ⟨rfl, rfl⟩
  rw [hk]
  gi_wp2_with fail
  refine ⟨trivial, (callsIn_wide.2 HF.out).mono ?_⟩
  rintro E w' ⟨rfl, rfl⟩
  gi_wp2_with fail
  refine ⟨trivial, (callsIn_wide.2 HCH.out).mono ?_⟩
  rintro E w' ⟨rfl, rfl⟩
  clear hw1 hw2 hw3 C0 C1
  gi_wp2_with fail
  refine wpIn_rangeFunc_ownF rfl (by omega) (gf := 153) (lb := #[.pointer (some ⟨w.heap.size + 3, 0, none⟩), .pointer (some ⟨w.heap.size + 4, 0, none⟩)]) rfl trivial (enters_of Tryz.func153 (by kernel_rfl) rfl) SEQ.out Kc.trans (kc_b (by omega) (by omega)) (Below.refl _ _) (fun _ => rfl)
    (WI p F W0 st f bs 0 F)
    (fun c pre W => (c = .ret ∧ W.heap[w.heap.size + 2]? = some (.cells #[.int .i64 6] 39 (0, 0))) ∧ WI p F W0 st f bs 6 (fun g => F g ∨ g = w.heap.size + 2) pre W)
    WI.own
    (fun c => OwnFrom.and (fun s A B row hs hg hr => ⟨hs.1, (hg.block (w.heap.size + 2) (blk_lt hs.2) fun e => by have := (hr _ e.symm).1; omega).trans hs.2⟩) WI.own)
    I0.out
    (fun x => { tmps := #[.pointer (some ⟨p, 0, none⟩), .int .i64 f, vb, .pointer (some ⟨w.heap.size, 0, none⟩), .pointer (some ⟨w.heap.size + 1, 0, none⟩), undef, .pointer (some ⟨w.heap.size + 2, 0, none⟩), .int .i64 0, chv b off bs.length x.1, undef, .pointer (some ⟨p, 0, none⟩), .int .i64 0, .int .i64 0, .bool false, undef, .int .i64 f, .bool true, .bool false, vb, .func (.func 153) #[] #[.pointer (some ⟨w.heap.size + 3, 0, none⟩), .pointer (some ⟨w.heap.size + 4, 0, none⟩)], chv b off bs.length x.1, undef, undef, undef, undef, undef, undef, undef, undef, undef], defers := [] }) ?assign ?body ?done ?stop
  case assign =>
    intro l x W K hK
    gi_wp2
    exact hK
  case body =>
    rintro l pre x W hI hlt
    have hOW : Out F W0 W := by
      obtain ⟨_, _, _, h1, _⟩ := hI
      exact h1
    have g0 := (HST.out W hOW w.heap.size (by omega) (by omega)).trans DD.out.1
    have g1 := (HST.out W hOW (w.heap.size + 1) (by omega) (by omega)).trans DD.out.2.1
    have eR := (HST.out W hOW (w.heap.size + 2) (by omega) (by omega)).trans DD.out.2.2
    have x0 : W.cell? ⟨w.heap.size, 0, none⟩ = some (.pointer (some ⟨p, 0, none⟩)) := blk_cell g0 0 rfl
    have x1 : W.cell? ⟨w.heap.size + 1, 0, none⟩ = some (.int .i64 f) := blk_cell g1 0 rfl
    have hvb : vb = .slice (some ⟨b, off, none⟩) bs.length cap := by
      rcases HVB.out with h1 | ⟨h1, _⟩
      · exact h1
      · have := x.2; omega
    have isx : Is .u8 W (chv b off bs.length x.1) (ck bs x.1) := ch_is (by rw [← hvb]; exact HIB.out W hOW) x.1 x.2
    have hW0 := hOW.size
    have HC : Hid (Calls Tryz.prog 89 #[chv b off bs.length x.1] W.drew fun E w1 => ∃ v1, E = .returned v1 ∧ Own .u8 5 W.heap.size w1 v1 (ck bs x.1) ∧ Below W.heap.size W w1 ∧ w1.cell? ⟨w.heap.size, 0, none⟩ = some (.pointer (some ⟨p, 0, none⟩)) ∧ w1.cell? ⟨w.heap.size + 1, 0, none⟩ = some (.int .i64 f)) := hide (by
      refine (bclone_any _ _ W.drew (isx.drewN 1) (by rw [ck_len]; omega)).mono ?_
      rintro E w1 ⟨v1, rfl, own1, bel1⟩
      have bel1' : Below W.heap.size W w1 := (below_drewN (Below.refl _ _) 1).trans bel1
      exact ⟨v1, rfl, own1, bel1', (bel1'.cell (p := ⟨w.heap.size, 0, none⟩) (by show w.heap.size < W.heap.size; omega)).trans x0, (bel1'.cell (p := ⟨w.heap.size + 1, 0, none⟩) (by show w.heap.size + 1 < W.heap.size; omega)).trans x1⟩)
    have HDO := hide (round_do p F W0 st f hf bs (fun g hg => by have := HW.out g hg; omega) pre x W hI hlt hw hl hc)
    have hd1 : 1 ≤ 6 - 1 - 1 := by omega
    have HeR := hide eR
    have HOUT := hide hOW
    clear hI g0 g1 isx hvb eR hOW
    rcases wgo_01 f (cks bs (pre ++ [x])) st with he | he
    · have eR := HeR.out
      rw [he] at HDO
      gi_wp2_with fail
      gi_region_with_o (first
        | (refine ⟨trivial, ?_⟩; gi_at_call 89; refine (CallsIn.inRound l (callsIn_wide.2 HC.out)).mono ?_; rintro E w1 ⟨v1, rfl, own1, bel1, y0, y1⟩; obtain ⟨a1, k1, hv1, _, _⟩ := own1.is.shape; subst hv1; have HOW := hide own1)
        | (refine ⟨trivial, ?_⟩; gi_at_call 88; refine (CallsIn.inRound l (callsIn_wide.2 (HDO.out _ _ HOW.out bel1))).mono ?_; rintro E w2 ⟨rfl, J, KO, KB⟩; have J := hide J; have z2 := (KB (w.heap.size + 2) (by omega) (fun h3 => by have := HW.out _ h3; omega)).trans eR; have cz2 : w2.cell? ⟨w.heap.size + 2, 0, none⟩ = some (.int .i64 0) := blk_cell z2 0 rfl; have fz2 := blk_froz z2 0; have HKB := hide KB; clear KB))
      all_goals gi_wp2
      all_goals
        have k1 := HKB.out (w.heap.size + 3) (by omega) (fun h3 => by have := HW.out _ h3; omega)
        have k2 := HKB.out (w.heap.size + 4) (by omega) (fun h3 => by have := HW.out _ h3; omega)
        exact ⟨KO, ⟨k1, k2⟩, J.out⟩
    · have eR := HeR.out
      rw [he] at HDO
      gi_wp2_with fail
      gi_region_with_o (first
        | (refine ⟨trivial, ?_⟩; gi_at_call 89; refine (CallsIn.inRound l (callsIn_wide.2 HC.out)).mono ?_; rintro E w1 ⟨v1, rfl, own1, bel1, y0, y1⟩; obtain ⟨a1, k1, hv1, _, _⟩ := own1.is.shape; subst hv1; have HOW := hide own1)
        | (refine ⟨trivial, ?_⟩; gi_at_call 88; refine (CallsIn.inRound l (callsIn_wide.2 (HDO.out _ _ HOW.out bel1))).mono ?_; rintro E w2 ⟨rfl, J, KO, KB⟩; have J := hide J; have z2 := (KB (w.heap.size + 2) (by omega) (fun h3 => by have := HW.out _ h3; omega)).trans eR; have cz2 : w2.cell? ⟨w.heap.size + 2, 0, none⟩ = some (.int .i64 0) := blk_cell z2 0 rfl; have fz2 := blk_froz z2 0; have HKB := hide KB; clear KB))
      all_goals gi_wp2
      all_goals
        refine ⟨KO.trans (KeepsOthers.setCell _ _ _), ⟨rfl, by rw [set_cells z2]; rfl⟩, ?_⟩
        obtain ⟨F', j1, j2, j3, j4⟩ := J.out
        have hnF : ¬ F' (w.heap.size + 2) := fun h3 => by
          rcases j4 _ h3 with h4 | h4
          · have := HW.out _ h4; omega
          · omega
        have so : Out (fun g => g = w.heap.size + 2) w2 (w2.setCell ⟨w.heap.size + 2, 0, none⟩ (.int .i64 6)) := Out.of_grown (grown_setCell w2 ⟨w.heap.size + 2, 0, none⟩ _) fun g hg => by simp at hg; exact hg.symm
        exact ⟨F', j1.out so (fun g hg h5 => hnF (h5 ▸ hg)), j2, (j3.mono (G := fun g => F g ∨ g = w.heap.size + 2) fun g hg => .inl (.inl hg)).trans so fun g hg => .inl (.inr hg), j4⟩
  case done =>
    rintro D xs W hD rfl hI hK
    have hOW : Out F W0 W := by
      obtain ⟨_, _, _, h1, _⟩ := hI
      exact h1
    have eR := (HST.out W hOW (w.heap.size + 2) (by omega) (by omega)).trans DD.out.2.2
    have cR : W.cell? ⟨w.heap.size + 2, 0, none⟩ = some (.int .i64 0) := blk_cell eR 0 rfl
    have fR := blk_froz eR 0
    have HI := hide hI
    have HK := hide hK
    have HeR := hide eR
    clear hI eR
    gi_wp2
    have hK' := (KeepsOthers.setCell W ⟨w.heap.size + 2, 0, none⟩ (.int .i64 0)).same D _ HK.out rfl
    refine ⟨by simp, .inl ⟨_, _, rfl, run_takeDeferred hK', ?_⟩⟩
    have hc5 := cell_kept (World.cell?_setCell_same' W ⟨w.heap.size + 2, 0, none⟩ (.int .i64 0) (by rw [cR]; rfl)) (grownBy_putObj' _ D (.deferred none)) (fun r e => by cases e; exact ⟨_, hK', rfl⟩)
    have hend := write_end bel0 HW.out (fun g hg => .inl hg) HI.out (fun g => g = w.heap.size + 2 ∨ g = D) ((Out.of_grown (F := fun g => g = w.heap.size + 2 ∨ g = D) (grown_setCell W ⟨w.heap.size + 2, 0, none⟩ (.int .i64 0)) fun g hg => .inl (by simp at hg; exact hg.symm)).trans (Out.of_grown (F := fun g => g = w.heap.size + 2 ∨ g = D) (grownBy_putObj' _ D (.deferred none)) fun g hg => .inr (by simp at hg; exact hg.symm)) fun g hg => .inl hg) (fun g hg => by rcases hg with h | h <;> omega) (fun g hg h2 => by
      rcases hg with h | h
      · omega
      · exact ⟨_, by rw [h]; exact HK.out, rfl⟩)
    have he : (wgo f st (pieces bs.length bs)).1 = 0 := by
      obtain ⟨_, _, h1, _⟩ := HI.out
      rw [cks_all] at h1
      exact h1
    rw [cks_all] at hend
    refine ⟨.int .i64 0, ?_, by rw [he], hend⟩
    simp [results, Tryz.results44, go_sem, hc5]
  case stop =>
    rintro D c pre W hD ⟨k, hk2, rfl⟩ ⟨⟨rfl, eR⟩, hI⟩ hK
    have HI := hide hI
    have HK := hide hK
    have cR : W.cell? ⟨w.heap.size + 2, 0, none⟩ = some (.int .i64 6) := blk_cell eR 0 rfl
    clear hI eR
    gi_wp2
    refine ⟨by simp, .inl ⟨_, _, rfl, run_takeDeferred HK.out, ?_⟩⟩
    have hc5 := cell_kept cR (grownBy_putObj' _ D (.deferred none)) (fun r e => by cases e; exact ⟨_, HK.out, rfl⟩)
    have hend := write_end bel0 HW.out (fun g hg => by rcases hg with h | h; exact .inl h; exact .inr (by omega)) HI.out (fun g => g = D) (Out.of_grown (F := fun g => g = D) (grownBy_putObj' _ D (.deferred none)) fun g hg => by simp at hg; exact hg.symm) (fun g hg => by omega) (fun g hg h2 => ⟨.deferred (some []), by rw [hg]; exact HK.out, rfl⟩)
    obtain ⟨r, hr⟩ : ∃ r, up bs.length (cnt bs.length) = up bs.length k ++ r := by
      obtain ⟨r, hr⟩ := up_pre bs.length k (cnt bs.length - k)
      rw [show k + (cnt bs.length - k) = cnt bs.length by omega] at hr
      exact ⟨r, hr⟩
    have h6 : (wgo f st (cks bs (up bs.length k))).1 = 6 := by
      obtain ⟨_, _, h1, _⟩ := HI.out
      exact h1
    have e1 : wgo f st (pieces bs.length bs) = wgo f st (cks bs (up bs.length k)) := by
      rw [← cks_all, hr]
      unfold cks at h6 ⊢
      rw [List.map_append]
      exact wgo_stop f _ _ st h6
    refine ⟨.int .i64 6, ?_, by rw [e1, h6], by rw [e1]; exact hend⟩
    simp [results, Tryz.results44, go_sem, hc5]

end Go.Proofs.YtajlhdmnincehaaGreatDoor

/- The program's disk: Write, whatever the disk and the file. -/
namespace Go.Proofs.YtajlhdmnincehaaGreatDoor
open Go.RowKit Go.Shelf
set_option linter.unusedVariables false
attribute [local go_sem] Oper.semAt_some

set_option maxRecDepth 100000 in
set_option maxHeartbeats 2000000 in
theorem write_any (p : Nat) (F : Nat → Prop) (w : World) (st : Dm.Ds) (file : Int) (vb : Value) (bs : List Int) (h : Pk p F w st) (hb : Is .u8 w vb bs) (hbF : 0 < bs.length → ∀ b, vb.ownBlock = some b → ¬ F b) (hLm : bs.length ≤ 1000000)
    (hw : st.wait.length + cnt bs.length ≤ 1000000) (hl : st.left ≤ 9223372036854775807) (hc : st.count + cnt bs.length < 9223372036854775807) :
    Calls Tryz.prog 44 #[.pointer (some ⟨p, 0, none⟩), .int .i64 file, vb] w fun E w' => E = .returned (.int .i64 (Dm.write st file bs).1) ∧ PStep p F w w' (Dm.write st file bs).2 := by
  unfold Dm.write
  obtain ⟨w1, hw1, sz1, bel1, B1⟩ := blk_step w #[.pointer (some ⟨p, 0, none⟩)] 32
  obtain ⟨w2, hw2, sz2, bel2, B2⟩ := blk_step w1 #[.int .i64 file] 3
  obtain ⟨w3, hw3, sz3, bel3, B3⟩ := blk_step w2 #[.int .i64 0] 39
  rw [sz1] at B2 bel2
  rw [show w2.heap.size = w.heap.size + 2 by omega] at B3 bel3
  have bel03 : Below w.heap.size w w3 := (bel1.trans (bel2.mono (by omega))).trans (bel3.mono (by omega))
  have HR := hide (refuses_any p F w3 st (h.below bel03))
  have HF := hide (isfile_any file w3)
  have HK := hide h
  replace sz2 : w2.heap.size = w.heap.size + 2 := by omega
  replace sz3 : w3.heap.size = w.heap.size + 3 := by omega
  have C0 : w3.cell? ⟨w.heap.size, 0, none⟩ = some (.pointer (some ⟨p, 0, none⟩)) := by
    have e1 := (bel2.block w.heap.size (by omega)).trans B1
    exact blk_cell ((bel3.block w.heap.size (by omega)).trans e1) 0 rfl
  have C1 : w3.cell? ⟨w.heap.size + 1, 0, none⟩ = some (.int .i64 file) := blk_cell ((bel3.block (w.heap.size + 1) (by omega)).trans B2) 0 rfl
  have C2 : w3.cell? ⟨w.heap.size + 2, 0, none⟩ = some (.int .i64 0) := blk_cell B3 0 rfl
  have f2 := blk_froz B3 0
  have hend : ∀ e : Int, Below w.heap.size w (w3.setCell ⟨w.heap.size + 2, 0, none⟩ (.int .i64 e)) ∧ (w3.setCell ⟨w.heap.size + 2, 0, none⟩ (.int .i64 e)).cell? ⟨w.heap.size + 2, 0, none⟩ = some (.int .i64 e) := fun e =>
    ⟨bel03.grown (grown_setCell w3 ⟨w.heap.size + 2, 0, none⟩ _) (by omega) fun k hk => by simp at hk; omega, blk_cell (set_cells B3 0 (.int .i64 e)) 0 (by simp)⟩
  have HE := hide hend
  cases hon : st.on
  · rw [if_pos rfl]
    have hk := ask_off hon
    clear h hon hend B1 B2 B3
    refine (callsIn_wide (n := 6)).1 ?_
    refine callsIn_of_wp_marks Tryz.func44 rfl trivial ?_ rfl
    simp only [Tryz.ntmps44, List.size_toArray, List.length_cons, List.length_nil, Nat.reduceAdd, Nat.reduceSub, Array.replicate_succ, Array.replicate_zero, List.push_toArray, List.append_toArray, List.nil_append, List.cons_append]
    gi_wp2_with fail
    refine ⟨trivial, (callsIn_wide.2 HR.out).mono ?_⟩
    rintro E w' ⟨rfl, rfl⟩
    rw [hk]
    gi_wp2
    obtain ⟨b6, c6⟩ := HE.out 6
    refine ⟨.int .i64 6, ?_, rfl, PStep.same HK.out b6⟩
    simp [results, Tryz.results44, go_sem, c6]
  · rw [if_neg (by simp)]
    have hk := ask_on hon
    cases hin : Dm.inF file
    · rw [if_pos rfl]
      rw [hin] at HF
      clear h hon hend B1 B2 B3 hin
      refine (callsIn_wide (n := 6)).1 ?_
      refine callsIn_of_wp_marks Tryz.func44 rfl trivial ?_ rfl
      simp only [Tryz.ntmps44, List.size_toArray, List.length_cons, List.length_nil, Nat.reduceAdd, Nat.reduceSub, Array.replicate_succ, Array.replicate_zero, List.push_toArray, List.append_toArray, List.nil_append, List.cons_append]
      gi_wp2_with fail
      refine ⟨trivial, (callsIn_wide.2 HR.out).mono ?_⟩
      rintro E w' ⟨rfl, rfl⟩
      rw [hk]
      gi_wp2_with fail
      refine ⟨trivial, (callsIn_wide.2 HF.out).mono ?_⟩
      rintro E w' ⟨rfl, rfl⟩
      gi_wp2
      obtain ⟨b6, c6⟩ := HE.out 2
      refine ⟨.int .i64 2, ?_, rfl, PStep.same HK.out b6⟩
      simp [results, Tryz.results44, go_sem, c6]
    · rw [if_neg (by simp)]
      obtain ⟨f, hf, rfl⟩ := inF_nat hin
      rw [Int.toNat_natCast, wrt_pieces]
      exact wgo_any p F w st f hf vb bs h hon hb hbF hLm hw hl hc

end Go.Proofs.YtajlhdmnincehaaGreatDoor

/- Disks, by mathematics: how much they hold. No program. -/
namespace Go.Proofs.YtajlhdmnincehaaGreatDoor
open Go.RowKit
set_option linter.unusedVariables false

/-- No more than t bytes, no more than u raw steps, a fuse that is a number. -/
def Big (t u : Nat) (st : Dm.Ds) : Prop := Dm.Sz t u st ∧ st.left ≤ 9223372036854775807

theorem Big.mono {t u t' u' : Nat} {st : Dm.Ds} (h : Big t u st) (ht : t ≤ t') (hu : u ≤ u') : Big t' u' st :=
  ⟨⟨fun f => Nat.le_trans (h.1.1 f) ht, Nat.le_trans h.1.2.1 hu, Nat.le_trans h.1.2.2 hu⟩, h.2⟩

theorem big_new : Big 0 0 Dm.new := ⟨⟨fun f => by simp [Dm.new, Dm.bulk], by simp [Dm.new], by simp [Dm.new]⟩, by simp [Dm.new]⟩

theorem big_dark {t u : Nat} {st : Dm.Ds} (h : Big t u st) : Big t u (Dm.dark st) := h

theorem big_burn {t u : Nat} {st : Dm.Ds} (h : Big t u st) : Big t (u + 1) (Dm.burn st) :=
  ⟨⟨h.1.1, Nat.le_trans h.1.2.1 (by omega), by show st.count + 1 ≤ u + 1; have := h.1.2.2; omega⟩, by show (if st.has then st.left - 1 else st.left) ≤ _; have := h.2; split <;> omega⟩

theorem big_push {t u : Nat} {st : Dm.Ds} (h : Big t u st) (r : Dm.Rw) : Big (t + r.bytes.length) (u + 1) (Dm.push (Dm.burn st) r) := by
  have hb := big_burn h
  refine ⟨⟨fun f => ?_, ?_, hb.1.2.2⟩, hb.2⟩
  · have h1 := h.1.1 f
    show (st.sure f).length + Dm.bulk (st.wait ++ [r]) ≤ _
    rw [Dm.bulk_app]
    simp only [Dm.bulk]
    omega
  · have h1 := h.1.2.1
    show (st.wait ++ [r]).length ≤ _
    rw [List.length_append]
    simp only [List.length_cons, List.length_nil]
    omega

theorem big_wrt (file : Nat) : ∀ (n : Nat) (bs : List Int) (t u : Nat) (st : Dm.Ds), Big t u st → Big (t + bs.length) (u + cnt bs.length) (Dm.wrt file n st bs).2
  | 0, bs, t, u, st, h => h.mono (by omega) (by omega)
  | n + 1, bs, t, u, st, h => by
    rw [Dm.wrt]
    by_cases hb : bs = []
    · rw [if_pos hb]; exact h.mono (by omega) (by omega)
    · rw [if_neg hb]
      have h1 : 0 < bs.length := List.length_pos_iff.2 hb
      split
      · exact (big_dark h).mono (by omega) (by omega)
      · have := big_wrt file n (bs.drop 64) _ _ _ (big_push h ⟨file, false, 0, bs.take 64⟩)
        refine this.mono ?_ ?_
        · simp only [List.length_take, List.length_drop]; omega
        · rw [List.length_drop]; unfold cnt; omega

theorem big_write {t u : Nat} {st : Dm.Ds} (h : Big t u st) (file : Int) (bs : List Int) : Big (t + bs.length) (u + cnt bs.length) (Dm.write st file bs).2 := by
  unfold Dm.write
  split
  · exact h.mono (by omega) (by omega)
  · split
    · exact h.mono (by omega) (by omega)
    · exact big_wrt _ _ _ _ _ _ h

theorem big_cut {t u : Nat} {st : Dm.Ds} (h : Big t u st) (file len : Int) : Big t (u + 1) (Dm.cutD st file len).2 := by
  unfold Dm.cutD
  split
  · exact h.mono (by omega) (by omega)
  · split
    · exact h.mono (by omega) (by omega)
    · split
      · exact h.mono (by omega) (by omega)
      · split
        · exact (big_dark h).mono (by omega) (by omega)
        · exact big_push h _

theorem big_flush {t u : Nat} {st : Dm.Ds} (h : Big t u st) : Big t u (Dm.flush st) :=
  ⟨⟨fun f => by
    have h1 := h.1.1 f
    have h2 := dof_len st.sure st.wait f
    show (Dm.dof st.sure st.wait f).length + 0 ≤ t
    omega, Nat.zero_le _, h.1.2.2⟩, h.2⟩

theorem big_sync {t u : Nat} {st : Dm.Ds} (h : Big t u st) : Big t (u + 1) (Dm.sync st).2 := by
  unfold Dm.sync
  split
  · exact h.mono (by omega) (by omega)
  · split
    · exact (big_dark h).mono (by omega) (by omega)
    · exact big_flush (big_burn h)






end Go.Proofs.YtajlhdmnincehaaGreatDoor

/- Of runs: a copy, the end, what follows, a frame, the disk's two steps, why nothing is taken. -/
namespace Go.Proofs.YtajlhdmnincehaaGreatDoor
open Go.RowKit
set_option linter.unusedVariables false



theorem last_run {l : List Cm.Cv} {k : Nat} {c : Cm.Cv} (hk : l[k]? = some c) (hl : l.length = k + 1) (e : Int) : Cm.lastN e l = c.n := by
  rcases List.eq_nil_or_concat l with rfl | ⟨r, d, rfl⟩
  · simp at hk
  · rw [List.concat_eq_append] at hk hl ⊢
    rw [List.length_append, List.length_singleton] at hl
    obtain rfl : r.length = k := by omega
    rw [Rl.last_snoc r d e]
    simp at hk
    rw [hk]

theorem hend_any (v : Value) (rs : List Cw) (w : World) (h : RowC w v rs) (hl : rs.length ≤ 1048576) :
    Calls Tryz.prog 205 #[v] w fun E w' => E = .returned (.int .i64 (Cm.lastN 0 (cvs rs))) ∧ w = w' := by
  by_cases h0 : rs.length = 0
  · have hr : rs = [] := List.eq_nil_of_length_eq_zero h0
    subst hr
    obtain ⟨ao, cap, rfl, _, _⟩ := h.shape
    clear h
    go_enter Tryz.func205, Tryz.ntmps205
    go_wp2
    go_ret
    exact ⟨rfl, rfl⟩
  · obtain ⟨k, hk⟩ : ∃ k, rs.length = k + 1 := ⟨rs.length - 1, by omega⟩
    obtain ⟨g, off, cap, rfl, _, _, _, hcell⟩ := h.full (by omega)
    obtain ⟨c, hck⟩ : ∃ c, rs[k]? = some c := ⟨rs[k]'(by omega), by rw [List.getElem?_eq_getElem]⟩
    obtain ⟨_, c1, _⟩ := hcell k c hck
    have hL : Cm.lastN 0 (cvs rs) = c.n := last_run (k := k) (c := c.c) (by unfold cvs; rw [List.getElem?_map, hck]; rfl) (by unfold cvs; rw [List.length_map]; exact hk) 0
    rw [hL, hk]
    have hne : (((k + 1 : Nat) : Int) == 0) = false := by simp; omega
    have hw : IntKind.i64.wrap (((k + 1 : Nat) : Int) - 1) = (k : Int) := by rw [wrap_i64_small _ (by omega) (by omega)]; omega
    have hk1 : (k : Int) < ((k + 1 : Nat) : Int) := by omega
    clear h hcell hck hL
    go_enter Tryz.func205, Tryz.ntmps205
    go_wp2
    go_ret
    exact ⟨rfl, rfl⟩


theorem hmade_any (p q : Nat) (w : World) (u1 u2 : Value) (hB : w.heap[p]? = some (.cells #[.pointer (some ⟨q, 0, none⟩), u1, u2] 196 (0, 0))) :
    Calls Tryz.prog 150 #[.pointer (some ⟨p, 0, none⟩)] w fun E w' => E = .returned (.bool true) ∧ w = w' := by
  have c0 := blk_cell hB 0 rfl
  clear hB
  go_enter Tryz.func150, Tryz.ntmps150
  go_wp2
  go_ret
  exact ⟨rfl, rfl⟩

/-- A run's frame, none of one that may not be. -/
def frdR (e n : Int) (l : List Bm.Ov) : List Int := if Rn.chk e n l = 0 then Rl.fr ⟨e, n, l⟩ else []

set_option maxRecDepth 20000 in
set_option maxHeartbeats 1000000 in
theorem hframed_any (e n : Int) (v : Value) (l : List Bm.Ov) (w : World) (h : IsO w v l) (hf : FitO l) (hl : l.length ≤ 140737488355328) :
    Calls Tryz.prog 268 #[cmv e n v] w fun E w' => ∃ vb, E = .returned (.tuple #[vb, .int .i64 (Rn.chk e n l)]) ∧ Own .u8 5 w.heap.size w' vb (frdR e n l) ∧ Below w.heap.size w w' := by
  obtain ⟨ao, cap, hv, _, _⟩ := h.shape
  obtain ⟨w1, hw1, sz1, bel1, hB⟩ := blk_step w #[.int .i64 e, .int .i64 n, v] 187
  have c0 : w1.cell? ⟨w.heap.size, 0, none⟩ = some (.int .i64 e) := blk_cell hB 0 rfl
  have c1 : w1.cell? ⟨w.heap.size, 1, none⟩ = some (.int .i64 n) := blk_cell hB 1 rfl
  have c2 : w1.cell? ⟨w.heap.size, 2, none⟩ = some v := blk_cell hB 2 rfl
  have HC := hide (henc_any e n v l w1 (h.below bel1) hf hl)
  unfold cmv at HC ⊢
  rw [hv] at hw1 c2 HC ⊢
  obtain ⟨ch, hch⟩ : ∃ c, Rn.chk e n l = c := ⟨_, rfl⟩
  have KC := hide hch
  rw [hch] at HC ⊢
  clear h hf hl hB hv hch
  go_enter Tryz.func268, Tryz.ntmps268
  go_wp2_with fail
  refine HC.out.mono ?_
  rintro E w2 ⟨vb, rfl, own, bel2⟩
  have bel02 := bel1.trans (bel2.mono bel1.size)
  obtain ⟨ab, cb, hvb, _, _⟩ := own.is.shape
  by_cases hc0 : ch = 0
  · have hz : (Rn.out e n l).length ≤ 52233 := Rn.out_small e n l
    have HF := hide (fapp_any (.slice none 0 0) vb [] (Rn.out e n l) w2 (Is.nil _ _) own.is (by simp) (by omega))
    have ea : ape (Rn.out e n l) = 0 := by unfold ape; rw [if_pos (by omega)]
    have ed : apd [] (Rn.out e n l) = frdR e n l := by
      unfold apd frdR
      rw [if_pos (by omega), if_pos (by rw [KC.out]; exact hc0), Rn.out_ok (by rw [KC.out]; exact hc0)]
      rfl
    rw [ea, ed] at HF
    subst hvb
    subst hc0
    clear own bel1 bel2 ea ed hz HC
    go_wp2_with fail
    refine HF.out.mono ?_
    rintro E w3 ⟨vf, rfl, own3, bel3⟩
    obtain ⟨af, cf, hvf, _, _⟩ := own3.is.shape
    have O3 := hide (own3.rebase (base' := w.heap.size) bel02.size)
    have B3 := hide (bel02.trans (bel3.mono bel02.size))
    subst hvf
    clear own3 bel3 bel02 HF
    go_wp2
    go_ret2
    exact ⟨_, rfl, O3.out, B3.out⟩
  · have ed : frdR e n l = [] := by unfold frdR; rw [if_neg (by rw [KC.out]; exact hc0)]
    have ED := hide ed
    have hne : (ch != 0) = true := by simp [hc0]
    subst hvb
    clear own bel1 bel2 ed HC
    go_wp2
    go_ret2
    exact ⟨_, rfl, by rw [ED.out]; exact Own.nil _ _ _ _, bel02⟩





theorem hrend_any (p q : Nat) (F : Nat → Prop) (w : World) (s : Rl.Rs) (h : RW p q F w s) :
    Calls Tryz.prog 137 #[.pointer (some ⟨p, 0, none⟩)] w fun E w' => E = .returned (.int .i64 (Cm.lastN 0 s.l)) ∧ w = w' := by
  obtain ⟨F1, G1, h1, h2, rfl⟩ := h
  obtain ⟨v, rs, hv, rfl⟩ := h2
  have HM := hide (hmade_any p q w _ _ hv.blk)
  have HE := hide (hend_any v rs w hv.log.row.row hv.log.len_le)
  rw [hv.log.is] at HE
  have c2 := blk_cell hv.blk 2 rfl
  simp only [List.getElem_toArray, List.getElem_cons_zero, List.getElem_cons_succ] at c2
  clear hv h1
  go_enter Tryz.func137, Tryz.ntmps137
  go_wp2_with fail
  refine HM.out.mono ?_
  rintro E w1 ⟨rfl, rfl⟩
  go_wp2_with fail
  refine HE.out.mono ?_
  rintro E w1 ⟨rfl, rfl⟩
  go_wp2
  go_ret
  exact ⟨rfl, rfl⟩

end Go.Proofs.YtajlhdmnincehaaGreatDoor

/- A store in memory: the program's object, its rest, its table, its runs. -/
namespace Go.Proofs.YtajlhdmnincehaaGreatDoor
open Go.RowKit
open Bm (Ov)
set_option linter.unusedVariables false

theorem fit_com {e n : Int} {l : List Ov} (h : Cm.chk e n l = 0) : FitO l ∧ l.length * 40 ≤ 140737488351232 ∧ In64 e ∧ In64 n ∧ l.length ≤ 8 := by
  obtain ⟨h1, h2, h3, h4, h5⟩ := Cm.chk_zero h
  obtain ⟨k1, k2, k3⟩ := Bm.chkL_zero h5
  refine ⟨fun o ho => ?_, by omega, ⟨by omega, by omega⟩, ⟨by omega, by omega⟩, k2⟩
  obtain ⟨_, k2, k3, _⟩ := Om.chk_ok' (k3 o ho)
  have e1 : o.k.size = o.k.data.toList.length := rfl
  have e2 : o.v.size = o.v.data.toList.length := rfl
  have e3 : o.kl = o.k.data.toList := rfl
  have e4 : o.vl = o.v.data.toList := rfl
  rw [e3] at k2
  rw [e4] at k3
  omega

/-- Commits in memory: a row of its own, and the ops of each. -/
structure Rt (base : Nat) (w : World) (l : List Cm.Cv) (v : Value) (rs : List Cw) : Prop where
  row : OwnR 93 base w v rs
  cop : CopyR base w rs
  is : cvs rs = l
  good : ∀ c ∈ l, Cm.chk c.e c.n c.l = 0
  few : l.length ≤ 1048576

section
variable {base base' : Nat} {w w' : World} {l : List Cm.Cv} {v : Value} {rs : List Cw} {F G : Nat → Prop}

theorem Rt.nil (base : Nat) (w : World) : Rt base w [] (.slice none 0 0) [] := ⟨OwnR.nil _ _ _, fun c hc => by simp at hc, rfl, fun c hc => by simp at hc, by simp⟩

theorem Rt.ty (h : Rt base w l v rs) : ∀ g, QB v rs g → ∃ cs t, w.heap[g]? = some (.cells cs t (0, 0)) ∧ (t = 93 ∨ t = 88) := by
  rintro g (hb | ⟨c, hc, hb⟩)
  · obtain ⟨cs, e⟩ := h.row.type hb
    exact ⟨_, _, e, .inl rfl⟩
  · obtain ⟨cs, e⟩ := (h.cop c hc).type hb
    exact ⟨_, _, e, .inr rfl⟩

theorem Rt.lt (h : Rt base w l v rs) : ∀ g, QB v rs g → g < w.heap.size := fun g hg => by
  obtain ⟨cs, t, e, _⟩ := h.ty g hg
  exact blk_lt e


theorem Rt.agree (h : Rt base w l v rs) (ha : ∀ g, QB v rs g → w'.heap[g]? = w.heap[g]?) : Rt base w' l v rs :=
  ⟨row_agree h.row fun b hb => ha b (.inl hb), fun c hc => row_agree (h.cop c hc) fun b hb => ha b (.inr ⟨c, hc, hb⟩), h.is, h.good, h.few⟩

theorem Rt.below (h : Rt base w l v rs) (hb : Below w.heap.size w w') : Rt base w' l v rs := h.agree fun g hg => hb.block g (h.lt g hg)

theorem Rt.out (h : Rt base w l v rs) (ho : Out F w w') (hd : ∀ g, QB v rs g → ¬ F g) : Rt base w' l v rs := h.agree fun g hg => ho.block g (h.lt g hg) (hd g hg)


/-- A block of another type is none of its. -/
theorem Rt.ne (h : Rt base w l v rs) {b : Nat} {cs : Array Value} {t : TypeId} {fr : Nat × Nat} (hb : w.heap[b]? = some (.cells cs t fr)) (h1 : t ≠ 93) (h3 : t ≠ 88) : ¬ QB v rs b := by
  intro hg
  obtain ⟨cs', t', e, ht⟩ := h.ty b hg
  rw [hb] at e
  simp only [Option.some.injEq, Obj.cells.injEq] at e
  obtain ⟨_, e2, _⟩ := e
  subst e2
  rcases ht with e | e
  · exact h1 e
  · exact h3 e

theorem Rt.len (h : Rt base w l v rs) : rs.length = l.length := by rw [← h.is, cvs, List.length_map]





/-- A commit more. -/
theorem Rt.grow {v' : Value} {c : Cw} (h : Rt base w l v rs) (ho : OwnR 93 base w' v' (rs ++ [c])) (hk : KeepT 93 w w') (hc : OwnO 88 base w c.v c.l) (hg : Cm.chk c.e c.n c.l = 0) (hn : l.length + 1 ≤ 1048576) : Rt base w' (l ++ [c.c]) v' (rs ++ [c]) := by
  refine ⟨ho, fun d hd => ?_, by unfold cvs; rw [List.map_append, ← h.is]; rfl, fun d hd => ?_, by rw [List.length_append, List.length_singleton]; exact hn⟩
  · rcases List.mem_append.1 hd with hd | hd
    · exact (h.cop d hd).keepT hk (by decide)
    · rw [List.mem_singleton.1 hd]
      exact hc.keepT hk (by decide)
  · rcases List.mem_append.1 hd with hd | hd
    · exact h.good d hd
    · rw [List.mem_singleton.1 hd]
      exact hg

end

/-- A store's own: its block ps, its runs' block p, its table's blocks pm and bm. -/
structure StV (ps p pm bm : Nat) (w : World) (l : List Cm.Cv) (v : Value) (rs : List Cw) : Prop where
  blk : w.heap[ps]? = some (.cells #[.pointer (some ⟨p, 0, none⟩), v, .pointer (some ⟨pm, 0, none⟩)] 206 (0, 0))
  rest : Rt 0 w l v rs
  tb : Tb pm bm w (Rl.tab l)

/-- Its blocks. -/
def SB (ps pm bm : Nat) (v : Value) (rs : List Cw) (g : Nat) : Prop := g = ps ∨ g = pm ∨ g = bm ∨ QB v rs g

def Sk (ps p : Nat) (G : Nat → Prop) (w : World) (l : List Cm.Cv) : Prop := ∃ pm bm v rs, StV ps p pm bm w l v rs ∧ G = SB ps pm bm v rs

section
variable {ps p pm bm q : Nat} {w w' w1 w2 : World} {l : List Cm.Cv} {v : Value} {rs : List Cw} {F G F1 : Nat → Prop}

theorem StV.lt (h : StV ps p pm bm w l v rs) : ∀ g, SB ps pm bm v rs g → g < w.heap.size := by
  rintro g (rfl | rfl | rfl | hg)
  · exact blk_lt h.blk
  · exact h.tb.plt
  · exact h.tb.blt
  · exact h.rest.lt g hg

theorem StV.agree (h : StV ps p pm bm w l v rs) (ha : ∀ g, SB ps pm bm v rs g → w'.heap[g]? = w.heap[g]?) : StV ps p pm bm w' l v rs :=
  ⟨(ha ps (.inl rfl)).trans h.blk, h.rest.agree fun g hg => ha g (.inr (.inr (.inr hg))), h.tb.agree (ha pm (.inr (.inl rfl))) (ha bm (.inr (.inr (.inl rfl))))⟩

theorem StV.below (h : StV ps p pm bm w l v rs) (hb : Below w.heap.size w w') : StV ps p pm bm w' l v rs := h.agree fun g hg => hb.block g (h.lt g hg)

theorem Sk.lt (h : Sk ps p G w l) : ∀ g, G g → g < w.heap.size := by
  obtain ⟨pm, bm, v, rs, h, rfl⟩ := h
  exact h.lt
theorem Sk.agree (h : Sk ps p G w l) (ha : ∀ g, G g → w'.heap[g]? = w.heap[g]?) : Sk ps p G w' l := by
  obtain ⟨pm, bm, v, rs, h, rfl⟩ := h
  exact ⟨pm, bm, v, rs, h.agree ha, rfl⟩
theorem Sk.below (h : Sk ps p G w l) (hb : Below w.heap.size w w') : Sk ps p G w' l := h.agree fun g hg => hb.block g (h.lt g hg)
theorem Sk.out (h : Sk ps p G w l) (ho : Out F w w') (hd : ∀ g, G g → ¬ F g) : Sk ps p G w' l := h.agree fun g hg => ho.block g (h.lt g hg) (hd g hg)

end

/-- A store, its runs and their disk. -/
def SW (ps p q : Nat) (F : Nat → Prop) (w : World) (s : Sto.Ss) : Prop := ∃ F1 G1, RW p q F1 w s.r ∧ Sk ps p G1 w s.l ∧ (∀ g, G1 g → ¬ F1 g) ∧ Sto.Ok s ∧ F = fun g => F1 g ∨ G1 g

/-- What a call leaves of them. -/
def StS (ps p q : Nat) (F : Nat → Prop) (w w' : World) (s' : Sto.Ss) : Prop := ∃ F', SW ps p q F' w' s' ∧ Out F w w' ∧ ∀ g, F' g → F g ∨ w.heap.size ≤ g

section
variable {ps p q : Nat} {F G : Nat → Prop} {w w' w1 w2 : World} {s s' : Sto.Ss}

theorem SW.lt (h : SW ps p q F w s) : ∀ g, F g → g < w.heap.size := by
  obtain ⟨F1, G1, h1, h2, _, _, rfl⟩ := h
  rintro g (hg | hg)
  · exact h1.lt g hg
  · exact h2.lt g hg

theorem SW.agree (h : SW ps p q F w s) (ha : ∀ g, F g → w'.heap[g]? = w.heap[g]?) : SW ps p q F w' s := by
  obtain ⟨F1, G1, h1, h2, h3, h4, rfl⟩ := h
  exact ⟨F1, G1, h1.agree fun g hg => ha g (.inl hg), h2.agree fun g hg => ha g (.inr hg), h3, h4, rfl⟩
theorem SW.below (h : SW ps p q F w s) (hb : Below w.heap.size w w') : SW ps p q F w' s := h.agree fun g hg => hb.block g (h.lt g hg)
theorem SW.ok (h : SW ps p q F w s) : Sto.Ok s := by
  obtain ⟨F1, G1, h1, h2, h3, h4, rfl⟩ := h
  exact h4

theorem StS.trans {F1 : Nat → Prop} (ho : Out F w w1) (hs : ∀ g, F1 g → F g ∨ w.heap.size ≤ g) (k : StS ps p q F1 w1 w2 s') : StS ps p q F w w2 s' := by
  obtain ⟨F2, h1, h2, h3⟩ := k
  refine ⟨F2, h1, ho.trans h2 hs, fun g hg => ?_⟩
  rcases h3 g hg with h | h
  · exact hs g h
  · exact .inr (Nat.le_trans ho.size h)
theorem StS.same (h : SW ps p q F w s) (hb : Below w.heap.size w w') : StS ps p q F w w' s := ⟨F, h.below hb, Out.of_below hb, fun g hg => .inl hg⟩
theorem StS.pre (hb : Below w.heap.size w w1) (h : StS ps p q F w1 w2 s') : StS ps p q F w w2 s' := h.trans (Out.of_below hb) fun g hg => .inl hg

end

end Go.Proofs.YtajlhdmnincehaaGreatDoor

/- List of runs. -/
namespace Go.Proofs.YtajlhdmnincehaaGreatDoor
open Go.RowKit
set_option linter.unusedVariables false



/-- The copies so far. -/
structure FstN (w wr : World) (g m cap : Nat) (rest : List Cw) (k : Nat) (rk : List Cw) : Prop where
  row : OwnR 187 w.heap.size wr (.slice (some ⟨g, 0, none⟩) m cap) rk
  len : rk.length = m
  left : rk.drop k = rest.drop k
  cop : CopyR w.heap.size wr (rk.take k)
  is : cvs rk = cvs rest
  ap : ApC (rk.take k)
  bel : Below w.heap.size w wr



end Go.Proofs.YtajlhdmnincehaaGreatDoor

/- How great a state grows (layer 21). No program. -/
namespace Go.Proofs.YtajlhdmnincehaaGreatDoor
set_option linter.unusedVariables false

/-- File 3 is empty. -/
def T3 (d : Dm.Ds) : Prop := Rst.hf 3 d = []

theorem t3_of {d d' : Dm.Ds} (h : T3 d) (e : Rst.hf 3 d' = Rst.hf 3 d) : T3 d' := e.trans h
theorem t3_new : T3 Dm.new := rfl

theorem hf_wrt (f j : Nat) (hj : f ≠ j) : ∀ (n : Nat) (st : Dm.Ds) (bs : List Int), Rst.hf j (Dm.wrt f n st bs).2 = Rst.hf j st
  | 0, st, bs => rfl
  | n + 1, st, bs => by
    unfold Dm.wrt
    split
    · rfl
    split
    · rfl
    rw [hf_wrt f j hj n, Rst.hf_push, if_neg hj]
theorem hf_write (d : Dm.Ds) (f : Int) (bs : List Int) (j : Nat) (hj : f.toNat ≠ j) : Rst.hf j (Dm.write d f bs).2 = Rst.hf j d := by
  unfold Dm.write
  split
  · rfl
  split
  · rfl
  exact hf_wrt _ _ hj _ _ _
theorem hf_sync (d : Dm.Ds) (j : Nat) : Rst.hf j (Dm.sync d).2 = Rst.hf j d := by
  unfold Dm.sync
  split
  · rfl
  split
  · rfl
  show Dm.hold j (Dm.dof d.sure d.wait j) [] = _
  rw [← Dm.hold_dof]
  rfl
theorem hf_wrs (j : Nat) (hj : 0 ≠ j) : ∀ (cs : List Cm.Cv) (d : Dm.Ds), Rst.hf j (Rst.wrs d cs).2 = Rst.hf j d
  | [], d => rfl
  | c :: cs, d => by
    have h1 := hf_write d 0 (Wl.fr c) j (by simpa using hj)
    unfold Rst.wrs
    split
    · exact h1
    · exact (hf_wrs j hj cs _).trans h1
theorem hf_wss (d : Dm.Ds) (cs : List Cm.Cv) (j : Nat) (hj : 0 ≠ j) : Rst.hf j (Rst.wss d cs).2 = Rst.hf j d := by
  have h1 := hf_wrs j hj cs d
  unfold Rst.wss
  split
  · exact h1
  split
  · exact (hf_sync _ j).trans h1
  · exact (hf_sync _ j).trans h1

/-- A state's size, in calls; its file 3 is just sections. -/
def Rz (n : Nat) (s : Rst.St) : Prop := Big (60000 * n) (1000 * n) s.d ∧ s.l.length ≤ 2 * n ∧ T3 s.d

theorem Rz.mono {n m : Nat} {s : Rst.St} (h : Rz n s) (hm : n ≤ m) : Rz m s := ⟨h.1.mono (by omega) (by omega), by have := h.2.1; omega, h.2.2⟩



theorem big_wrs : ∀ (cs : List Cm.Cv) {t u : Nat} {d : Dm.Ds}, Big t u d → (∀ c ∈ cs, Cm.chk c.e c.n c.l = 0) → Big (t + 433 * cs.length) (u + 7 * cs.length) (Rst.wrs d cs).2
  | [], t, u, d, h, _ => h.mono (by omega) (by omega)
  | c :: cs, t, u, d, h, hc => by
    have hf := Wl.fr_small (c := c) (hc c List.mem_cons_self)
    have hn : cnt (Wl.fr c).length ≤ 7 := by unfold cnt; omega
    have h1 := big_write h 0 (Wl.fr c)
    have h2 := big_wrs cs h1 fun x hx => hc x (List.mem_cons_of_mem _ hx)
    unfold Rst.wrs
    split
    · exact h1.mono (by rw [List.length_cons]; omega) (by rw [List.length_cons]; omega)
    · exact h2.mono (by rw [List.length_cons]; omega) (by rw [List.length_cons]; omega)

theorem rz_add {n : Nat} {s : Rst.St} (h : Rz n s) (cs : List Cm.Cv) (hl : cs.length ≤ 2) : Rz (n + 1) (Rst.add s cs).2 := by
  have hm : Rz (n + 1) s := h.mono (by omega)
  unfold Rst.add
  split
  · exact hm
  split
  · exact hm
  rename_i hc
  split
  · exact hm
  split
  · exact hm
  have hg : Cm.Good (Cm.lastE 0 s.l) s.l.length cs := (Cm.fol_good _ _ _ 0).1 (by simpa using hc)
  have h1 := big_wrs cs h.1 fun c hcc => (Sto.good_all hg c hcc).1
  have h2 := big_sync h1
  have hb : Big (60000 * n + 433 * cs.length) (1000 * n + 7 * cs.length + 1) (Rst.wss s.d cs).2 := by
    unfold Rst.wss
    split
    · exact h1.mono (by omega) (by omega)
    · split
      · exact h2
      · exact h2
  have ht := t3_of h.2.2 (hf_wss s.d cs 3 (by omega))
  split
  · exact ⟨hb.mono (by omega) (by omega), by have := h.2.1; show s.l.length ≤ _; omega, ht⟩
  · refine ⟨hb.mono (by omega) (by omega), ?_, ht⟩
    have := h.2.1
    show (s.l ++ cs).length ≤ _
    rw [List.length_append]
    omega






end Go.Proofs.YtajlhdmnincehaaGreatDoor
