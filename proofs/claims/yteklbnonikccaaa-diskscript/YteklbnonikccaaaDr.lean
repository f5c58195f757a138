/- The document's disk in memory, and the contracts of its small methods. -/
import Derived.Test.YteklbnonikccaaaGr
import Derived.Test.YteklbnonikccaaaDm
import Derived.Test.YteklbnonikccaaaBytes
namespace Go.Proofs.Yteklbnonikccaaa
open Go.RowKit
set_option linter.unusedVariables false

/-- A raw step as it stands in memory. -/
structure Rv where
  file : Nat
  cut : Bool
  to : Nat
  v : Value
  bytes : List Int

def Rv.r (r : Rv) : Dm.Rw := ⟨r.file, r.cut, r.to, r.bytes⟩
def rawc (r : Rv) : List Value := [.int .i64 r.file, .bool r.cut, .int .i64 r.to, r.v]
theorem rawc_len (r : Rv) : (rawc r).length = 4 := rfl

/-- A disk's ten cells. -/
def dcells (s : Nat → Value) (wv : Value) (on has : Bool) (left count : Int) : Array Value := #[.bool true, s 0, s 1, s 2, s 3, wv, .bool on, .bool has, .int .i64 left, .int .i64 count]

/-- Bytes of an object: they lie in the blocks of F, in a block of bytes. -/
def Byt (F : Nat → Prop) (w : World) (v : Value) (zs : List Int) : Prop := Is .u8 w v zs ∧ ∀ b, v.ownBlock = some b → F b ∧ ∃ cs fr, w.heap[b]? = some (.cells cs 5 fr)

theorem Byt.nil (F : Nat → Prop) (w : World) : Byt F w (.slice none 0 0) [] := ⟨Is.nil _ _, fun b hb => by simp [Value.ownBlock] at hb⟩

theorem Byt.agree {F : Nat → Prop} {w w' : World} {v : Value} {zs : List Int} (h : Byt F w v zs) (ha : ∀ b, v.ownBlock = some b → w'.heap[b]? = w.heap[b]?) : Byt F w' v zs :=
  ⟨h.1.agree ha, fun b hb => ⟨(h.2 b hb).1, by obtain ⟨_, cs, fr, hc⟩ := h.2 b hb; exact ⟨cs, fr, (ha b hb).trans hc⟩⟩⟩

theorem Byt.mono {F G : Nat → Prop} {w : World} {v : Value} {zs : List Int} (h : Byt F w v zs) (hs : ∀ g, F g → G g) : Byt G w v zs := ⟨h.1, fun b hb => ⟨hs b (h.2 b hb).1, (h.2 b hb).2⟩⟩

theorem Byt.ne {F : Nat → Prop} {w : World} {v : Value} {zs : List Int} (h : Byt F w v zs) {p : Nat} {cs : Array Value} {t : TypeId} {fr : Nat × Nat} (hp : w.heap[p]? = some (.cells cs t fr)) (ht : t ≠ 5) : ∀ b, v.ownBlock = some b → b ≠ p := by
  intro b hb e
  obtain ⟨_, cs', fr', hc⟩ := h.2 b hb
  rw [e, hp] at hc
  simp at hc
  exact ht hc.2.1

theorem Byt.of_own {F : Nat → Prop} {base : Nat} {w : World} {v : Value} {zs : List Int} (h : Own .u8 5 base w v zs) (hF : ∀ b, base ≤ b → b < w.heap.size → F b) : Byt F w v zs := by
  refine ⟨h.is, fun b hb => ⟨hF b (h.block b hb).1 (h.block b hb).2, ?_⟩⟩
  rcases h.2.2 with ⟨rfl, _⟩ | ⟨g, cap, cur, rfl, _, hh, _⟩
  · simp [Value.ownBlock] at hb
  · simp [Value.ownBlock] at hb
    subst hb
    exact ⟨_, _, hh⟩

/-- A disk in memory: its block p, the slices of its files, its row of raw steps; all in the blocks of F. -/
structure DkV (p : Nat) (F : Nat → Prop) (w : World) (st : Dm.Ds) (s : Nat → Value) (wv : Value) (rs : List Rv) : Prop where
  blk : w.heap[p]? = some (.cells (dcells s wv st.on st.has st.left st.count) 71 (0, 0))
  inp : F p
  file : ∀ f, f < 4 → Byt F w (s f) (st.sure f)
  row : OwnG rawc 4 75 0 w wv rs
  inr : ∀ b, wv.ownBlock = some b → F b
  raw : ∀ r ∈ rs, Byt F w r.v r.bytes
  wait : rs.map Rv.r = st.wait
  lt : ∀ g, F g → g < w.heap.size
  ok : Dm.Ok st

def Dk (p : Nat) (F : Nat → Prop) (w : World) (st : Dm.Ds) : Prop := ∃ s wv rs, DkV p F w st s wv rs

section
variable {p : Nat} {F G : Nat → Prop} {w w' w1 w2 : World} {st st' : Dm.Ds} {s s' : Nat → Value} {wv wv' : Value} {rs rs' : List Rv}

theorem DkV.agree (h : DkV p F w st s wv rs) (ha : ∀ g, F g → w'.heap[g]? = w.heap[g]?) (hs : w.heap.size ≤ w'.heap.size) : DkV p F w' st s wv rs :=
  ⟨(ha p h.inp).trans h.blk, h.inp, fun f hf => (h.file f hf).agree fun b hb => ha b ((h.file f hf).2 b hb).1, h.row.agree fun b hb => ha b (h.inr b hb), h.inr, fun r hr => (h.raw r hr).agree fun b hb => ha b ((h.raw r hr).2 b hb).1, h.wait, fun g hg => Nat.lt_of_lt_of_le (h.lt g hg) hs, h.ok⟩

theorem Dk.lt (h : Dk p F w st) : ∀ g, F g → g < w.heap.size := by
  obtain ⟨s, wv, rs, h⟩ := h
  exact h.lt

theorem Dk.agree (h : Dk p F w st) (ha : ∀ g, F g → w'.heap[g]? = w.heap[g]?) (hs : w.heap.size ≤ w'.heap.size) : Dk p F w' st := by
  obtain ⟨s, wv, rs, h⟩ := h
  exact ⟨s, wv, rs, h.agree ha hs⟩

theorem Dk.below (h : Dk p F w st) (hb : Below w.heap.size w w') : Dk p F w' st := h.agree (fun g hg => hb.block g (h.lt g hg)) hb.size
theorem DkV.below (h : DkV p F w st s wv rs) (hb : Below w.heap.size w w') : DkV p F w' st s wv rs := h.agree (fun g hg => hb.block g (h.lt g hg)) hb.size

/-- A disk stays where another object's blocks alone were written. -/
theorem Dk.out (h : Dk p F w st) (ho : Out G w w') (hd : ∀ g, F g → ¬ G g) : Dk p F w' st := h.agree (fun g hg => ho.block g (h.lt g hg) (hd g hg)) ho.size

/-- What a call does to a disk: its new state; all else is as it was. -/
def DStep (p : Nat) (F : Nat → Prop) (w w' : World) (st' : Dm.Ds) : Prop := ∃ F', Dk p F' w' st' ∧ Out F w w' ∧ ∀ g, F' g → F g ∨ w.heap.size ≤ g

theorem DStep.trans {F1 : Nat → Prop} (ho : Out F w w1) (hs : ∀ g, F1 g → F g ∨ w.heap.size ≤ g) (k : DStep p F1 w1 w2 st') : DStep p F w w2 st' := by
  obtain ⟨F2, h1, h2, h3⟩ := k
  refine ⟨F2, h1, ho.trans h2 hs, fun g hg => ?_⟩
  rcases h3 g hg with h | h
  · exact hs g h
  · exact .inr (Nat.le_trans ho.size h)

theorem DStep.same (h : Dk p F w st) (hb : Below w.heap.size w w') : DStep p F w w' st := ⟨F, h.below hb, Out.of_below hb, fun g hg => .inl hg⟩
theorem DStep.mk' (h : Dk p F w' st') (ho : Out F w w') : DStep p F w w' st' := ⟨F, h, ho, fun g hg => .inl hg⟩

/-- One cell of the disk's block is written. -/
theorem DkV.put (h : DkV p F w st s wv rs) (j : Nat) (u : Value)
    (hc : (dcells s wv st.on st.has st.left st.count).setIfInBounds j u = dcells s' wv' st'.on st'.has st'.left st'.count)
    (hf : ∀ f, f < 4 → Byt F w (s' f) (st'.sure f)) (hr : OwnG rawc 4 75 0 w wv' rs') (hir : ∀ b, wv'.ownBlock = some b → F b)
    (hw : ∀ r ∈ rs', Byt F w r.v r.bytes) (hwait : rs'.map Rv.r = st'.wait) (hok : Dm.Ok st') :
    DkV p F (w.setCell ⟨p, j, none⟩ u) st' s' wv' rs' ∧ Out F w (w.setCell ⟨p, j, none⟩ u) := by
  have hne : ∀ b, b ≠ p → (w.setCell ⟨p, j, none⟩ u).heap[b]? = w.heap[b]? := fun b hb => Below.heap_setCell _ _ _ _ hb
  have hsz : w.heap.size ≤ (w.setCell ⟨p, j, none⟩ u).heap.size := by simp [World.setCell]
  have hrp : ∀ b, wv'.ownBlock = some b → b ≠ p := by
    intro b hb e
    obtain ⟨cs, hc'⟩ := hr.type hb
    rw [e, h.blk] at hc'
    simp at hc'
  refine ⟨⟨?_, h.inp, fun f hf' => (hf f hf').agree fun b hb => hne b ((hf f hf').ne h.blk (by decide) b hb), hr.agree fun b hb => hne b (hrp b hb), hir, fun r hr' => (hw r hr').agree fun b hb => hne b ((hw r hr').ne h.blk (by decide) b hb), hwait, fun g hg => Nat.lt_of_lt_of_le (h.lt g hg) hsz, hok⟩, Out.of_grown (grown_setCell w ⟨p, j, none⟩ u) fun g hg => by simp at hg; subst hg; exact h.inp⟩
  rw [set_cells h.blk, hc]

theorem DkV.cell (h : DkV p F w st s wv rs) (j : Nat) {u : Value} (hj : (dcells s wv st.on st.has st.left st.count)[j]? = some u) : w.cell? ⟨p, j, none⟩ = some u := blk_cell h.blk j hj
theorem DkV.c0 (h : DkV p F w st s wv rs) : w.cell? ⟨p, 0, none⟩ = some (.bool true) := h.cell 0 rfl
theorem DkV.c5 (h : DkV p F w st s wv rs) : w.cell? ⟨p, 5, none⟩ = some wv := h.cell 5 rfl
theorem DkV.c6 (h : DkV p F w st s wv rs) : w.cell? ⟨p, 6, none⟩ = some (.bool st.on) := h.cell 6 rfl
theorem DkV.c7 (h : DkV p F w st s wv rs) : w.cell? ⟨p, 7, none⟩ = some (.bool st.has) := h.cell 7 rfl
theorem DkV.c8 (h : DkV p F w st s wv rs) : w.cell? ⟨p, 8, none⟩ = some (.int .i64 st.left) := h.cell 8 rfl
theorem DkV.c9 (h : DkV p F w st s wv rs) : w.cell? ⟨p, 9, none⟩ = some (.int .i64 st.count) := h.cell 9 rfl
theorem DkV.cf (h : DkV p F w st s wv rs) (f : Nat) (hf : f < 4) : w.cell? ⟨p, 1 + f, none⟩ = some (s f) := by
  rcases (show f = 0 ∨ f = 1 ∨ f = 2 ∨ f = 3 by omega) with rfl | rfl | rfl | rfl
  · exact h.cell 1 rfl
  · exact h.cell 2 rfl
  · exact h.cell 3 rfl
  · exact h.cell 4 rfl
theorem DkV.froz (h : DkV p F w st s wv rs) (j : Nat) : w.frozen? ⟨p, j, none⟩ = false := blk_froz h.blk j
end

/-- A new disk. -/
theorem newR_any (w : World) : Calls Try.prog 21 #[] w fun E w' => E = .returned (.pointer (some ⟨w.heap.size, 0, none⟩)) ∧ Dk w.heap.size (fun g => g = w.heap.size) w' Dm.new ∧ Below w.heap.size w w' := by
  obtain ⟨w1, hw1, sz1, bel1, hB⟩ := blk_step w #[.bool true, .slice none 0 0, .slice none 0 0, .slice none 0 0, .slice none 0 0, .slice none 0 0, .bool true, .bool false, .int .i64 0, .int .i64 0] 71
  have D : Hid (Dk w.heap.size (fun g => g = w.heap.size) w1 Dm.new) := ⟨fun _ => .slice none 0 0, .slice none 0 0, [], hB, rfl, fun f _ => Byt.nil _ _, OwnG.nil _ _ _ _ _, fun b hb => by simp [Value.ownBlock] at hb, fun r hr => by simp at hr, rfl, fun g hg => by omega, trivial⟩
  clear hB
  go_enter Try.func21, Try.ntmps21
  go_wp2
  go_ret
  exact ⟨rfl, D.out, bel1⟩

set_option maxHeartbeats 400000 in
theorem noneR_any (p : Nat) (F : Nat → Prop) (w : World) (st : Dm.Ds) (h : Dk p F w st) : Calls Try.prog 63 #[.pointer (some ⟨p, 0, none⟩)] w fun E w' => E = .returned (.bool false) ∧ w = w' := by
  obtain ⟨s, wv, rs, h⟩ := h
  have c0 := h.c0
  clear h
  go_enter Try.func63, Try.ntmps63
  go_wp2
  go_ret
  exact ⟨rfl, rfl⟩

/-- Why nothing is done. -/
def ask (st : Dm.Ds) : Int := if st.on then 0 else 6

theorem ask_on {st : Dm.Ds} (h : st.on = true) : ask st = 0 := by simp [ask, h]
theorem ask_off {st : Dm.Ds} (h : st.on = false) : ask st = 6 := by simp [ask, h]

set_option maxHeartbeats 400000 in
theorem askedR_any (p : Nat) (F : Nat → Prop) (w : World) (st : Dm.Ds) (h : Dk p F w st) : Calls Try.prog 59 #[.pointer (some ⟨p, 0, none⟩)] w fun E w' => E = .returned (.int .i64 (ask st)) ∧ w = w' := by
  have hn := noneR_any p F w st h
  obtain ⟨s, wv, rs, h⟩ := h
  have c6 := h.c6
  have HN := hide hn
  clear h hn
  cases hon : st.on
  · rw [hon] at c6
    rw [ask_off hon]
    clear hon
    go_enter Try.func59, Try.ntmps59
    go_wp2_with fail
    refine HN.out.mono ?_
    rintro E w1 ⟨rfl, rfl⟩
    go_wp2
    go_ret
    exact ⟨rfl, rfl⟩
  · rw [hon] at c6
    rw [ask_on hon]
    clear hon
    go_enter Try.func59, Try.ntmps59
    go_wp2_with fail
    refine HN.out.mono ?_
    rintro E w1 ⟨rfl, rfl⟩
    go_wp2
    go_ret
    exact ⟨rfl, rfl⟩

/-- The disk is nobody's where it was not made: a pointer to such a block, or none. -/
theorem ok_dark {st : Dm.Ds} (h : Dm.Ok st) : Dm.Ok (Dm.dark st) := h
theorem ok_burn {st : Dm.Ds} (h : Dm.Ok st) : Dm.Ok (Dm.burn st) := h

set_option maxHeartbeats 400000 in
theorem stepR_any (p : Nat) (F : Nat → Prop) (w : World) (st : Dm.Ds) (h : Dk p F w st) (hl : st.left ≤ 9223372036854775807) (hc : st.count < 9223372036854775807) :
    Calls Try.prog 60 #[.pointer (some ⟨p, 0, none⟩)] w fun E w' => E = .returned (.int .i64 (if Dm.off st then 6 else 0)) ∧ DStep p F w w' (if Dm.off st then Dm.dark st else Dm.burn st) := by
  obtain ⟨s, wv, rs, h⟩ := h
  have c6 := h.c6
  have c7 := h.c7
  have c8 := h.c8
  have c9 := h.c9
  have f6 := h.froz 6
  have f8 := h.froz 8
  have f9 := h.froz 9
  cases hh : st.has
  · have ho : Dm.off st = false := by simp [Dm.off, hh]
    rw [ho, if_neg (by simp), if_neg (by simp)]
    have hb : Dm.burn st = { st with count := st.count + 1 } := by simp [Dm.burn, hh]
    have R := h.put (st' := Dm.burn st) (s' := s) (wv' := wv) (rs' := rs) 9 (.int .i64 ((st.count : Int) + 1)) (by rw [hb]; simp [dcells]) (by rw [hb]; exact h.file) h.row h.inr h.raw (by rw [hb]; exact h.wait) (ok_burn h.ok)
    have HR : Hid (DStep p F w (w.setCell ⟨p, 9, none⟩ (.int .i64 ((st.count : Int) + 1))) (Dm.burn st)) := DStep.mk' ⟨_, _, _, R.1⟩ R.2
    rw [hh] at c7
    clear h R ho hb
    go_enter Try.func60, Try.ntmps60
    go_wp2
    go_ret
    exact ⟨rfl, HR.out⟩
  · by_cases hz : st.left = 0
    · have ho : Dm.off st = true := by simp [Dm.off, hh, hz]
      rw [ho, if_pos rfl, if_pos rfl]
      have R := h.put (st' := Dm.dark st) (s' := s) (wv' := wv) (rs' := rs) 6 (.bool false) rfl h.file h.row h.inr h.raw h.wait (ok_dark h.ok)
      have HR : Hid (DStep p F w (w.setCell ⟨p, 6, none⟩ (.bool false)) (Dm.dark st)) := DStep.mk' ⟨_, _, _, R.1⟩ R.2
      rw [hh] at c7
      rw [hz] at c8
      clear h R ho
      go_enter Try.func60, Try.ntmps60
      go_wp2
      go_ret
      exact ⟨rfl, HR.out⟩
    · have ho : Dm.off st = false := by simp [Dm.off, hh, hz]
      rw [ho, if_neg (by simp), if_neg (by simp)]
      have hb : Dm.burn st = { st with left := st.left - 1, count := st.count + 1 } := by simp [Dm.burn, hh]
      have hsub : ((st.left - 1 : Nat) : Int) = (st.left : Int) - 1 := by omega
      have R1 := h.put (st' := { st with left := st.left - 1 }) (s' := s) (wv' := wv) (rs' := rs) 8 (.int .i64 ((st.left : Int) - 1)) (by simp [dcells, hsub]) h.file h.row h.inr h.raw h.wait h.ok
      have R2 := R1.1.put (st' := Dm.burn st) (s' := s) (wv' := wv) (rs' := rs) 9 (.int .i64 ((st.count : Int) + 1)) (by rw [hb]; simp [dcells]) (by rw [hb]; exact R1.1.file) R1.1.row R1.1.inr R1.1.raw (by rw [hb]; exact h.wait) (ok_burn h.ok)
      have HR : Hid (DStep p F w ((w.setCell ⟨p, 8, none⟩ (.int .i64 ((st.left : Int) - 1))).setCell ⟨p, 9, none⟩ (.int .i64 ((st.count : Int) + 1))) (Dm.burn st)) := DStep.mk' ⟨_, _, _, R2.1⟩ (R1.2.trans R2.2 fun g hg => .inl hg)
      have d9 := R1.1.c9
      have g9 := R1.1.froz 9
      have hz' : ((st.left : Int) == 0) = false := by simp; omega
      rw [hh] at c7
      clear h R1 R2 ho hb hsub
      go_enter Try.func60, Try.ntmps60
      go_wp2
      go_ret
      exact ⟨rfl, HR.out⟩

set_option maxHeartbeats 400000 in
theorem pullR_any (p : Nat) (F : Nat → Prop) (w : World) (st : Dm.Ds) (h : Dk p F w st) :
    Calls Try.prog 48 #[.pointer (some ⟨p, 0, none⟩)] w fun E w' => E = .returned (.int .i64 (Dm.pull st).1) ∧ DStep p F w w' (Dm.pull st).2 := by
  have ha := askedR_any p F w st h
  have HK := hide h
  obtain ⟨s, wv, rs, h⟩ := h
  have c6 := h.c6
  have f6 := h.froz 6
  have R := h.put (st' := Dm.dark st) (s' := s) (wv' := wv) (rs' := rs) 6 (.bool false) rfl h.file h.row h.inr h.raw h.wait (ok_dark h.ok)
  have HR : Hid (DStep p F w (w.setCell ⟨p, 6, none⟩ (.bool false)) (Dm.dark st)) := DStep.mk' ⟨_, _, _, R.1⟩ R.2
  have HA := hide ha
  clear h R ha
  unfold Dm.pull
  cases hon : st.on
  · rw [if_pos rfl]
    have hk := ask_off hon
    clear hon
    go_enter Try.func48, Try.ntmps48
    go_wp2_with fail
    refine HA.out.mono ?_
    rintro E w1 ⟨rfl, rfl⟩
    rw [hk]
    go_wp2
    go_ret
    exact ⟨rfl, DStep.same HK.out (Below.refl _ _)⟩
  · rw [if_neg (by simp)]
    have hk := ask_on hon
    clear hon
    go_enter Try.func48, Try.ntmps48
    go_wp2_with fail
    refine HA.out.mono ?_
    rintro E w1 ⟨rfl, rfl⟩
    rw [hk]
    go_wp2
    go_ret
    exact ⟨rfl, HR.out⟩

set_option maxHeartbeats 400000 in
theorem safeR_any (p : Nat) (F : Nat → Prop) (w : World) (st : Dm.Ds) (h : Dk p F w st) :
    Calls Try.prog 50 #[.pointer (some ⟨p, 0, none⟩)] w fun E w' => E = .returned (.int .i64 (Dm.safe st).1) ∧ DStep p F w w' (Dm.safe st).2 := by
  have ha := askedR_any p F w st h
  have HK := hide h
  obtain ⟨s, wv, rs, h⟩ := h
  have c7 := h.c7
  have f7 := h.froz 7
  have R := h.put (st' := { st with has := false }) (s' := s) (wv' := wv) (rs' := rs) 7 (.bool false) rfl h.file h.row h.inr h.raw h.wait h.ok
  have HR : Hid (DStep p F w (w.setCell ⟨p, 7, none⟩ (.bool false)) { st with has := false }) := DStep.mk' ⟨_, _, _, R.1⟩ R.2
  have HA := hide ha
  clear h R ha
  unfold Dm.safe
  cases hon : st.on
  · rw [if_pos rfl]
    have hk := ask_off hon
    clear hon
    go_enter Try.func50, Try.ntmps50
    go_wp2_with fail
    refine HA.out.mono ?_
    rintro E w1 ⟨rfl, rfl⟩
    rw [hk]
    go_wp2
    go_ret
    exact ⟨rfl, DStep.same HK.out (Below.refl _ _)⟩
  · rw [if_neg (by simp)]
    have hk := ask_on hon
    have hs : { st with has := false } = ({ sure := st.sure, wait := st.wait, on := true, has := false, left := st.left, count := st.count } : Dm.Ds) := by rw [← hon]
    go_enter Try.func50, Try.ntmps50
    go_wp2_with fail
    refine HA.out.mono ?_
    rintro E w1 ⟨rfl, rfl⟩
    rw [hk]
    clear hon
    go_wp2
    go_ret
    exact ⟨rfl, hs ▸ HR.out⟩

end Go.Proofs.Yteklbnonikccaaa
