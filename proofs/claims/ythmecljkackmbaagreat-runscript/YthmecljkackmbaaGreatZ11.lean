/- Texts of one layer, one behind the other. -/
import Derived.Test.YthmecljkackmbaaGreatZ10
import Derived.Test.YthmecljkackmbaaGreatZ7
import Derived.Test.YthmecljkackmbaaGreatZ9
import Derived.Test.YthmecljkackmbaaGreatZ8
import Derived.Test.YthmecljkackmbaaGreatZ4
import Derived.Test.YthmecljkackmbaaGreatZ6
/- The program's disk in memory, and the contracts of its small methods. -/
namespace Go.Proofs.YthmecljkackmbaaGreat
open Go.RowKit
set_option linter.unusedVariables false

/-- A raw step's kind. -/
def kof (r : Rv) : Int := if r.cut then 1 else 0

/-- A raw step's cells. -/
def stepc (r : Rv) : List Value := [.int .i64 (kof r), .int .i64 r.file, r.v, .int .i64 r.to]
theorem stepc_len (r : Rv) : (stepc r).length = 4 := rfl

/-- The fuse as it is told: -1 where there is none. -/
def pfuse (st : Dm.Ds) : Int := if st.has then st.left else -1

/-- A disk's nine cells. -/
def pcells (s : Nat → Value) (wv : Value) (on : Bool) (fuse count : Int) : Array Value := #[.bool true, .bool on, .int .i64 fuse, s 0, s 1, s 2, s 3, wv, .int .i64 count]

/-- The blocks of a disk. -/
def FB (p : Nat) (s : Nat → Value) (wv : Value) (rs : List Rv) (g : Nat) : Prop :=
  g = p ∨ (∃ f, f < 4 ∧ (s f).ownBlock = some g) ∨ wv.ownBlock = some g ∨ ∃ r ∈ rs, r.v.ownBlock = some g

/-- What a disk holds: its files' slices, each alone in its block; the row of raw steps; their bytes. -/
structure Con (w : World) (sure : Nat → List Int) (wait : List Dm.Rw) (s : Nat → Value) (wv : Value) (rs : List Rv) : Prop where
  file : ∀ f, f < 4 → Own .u8 5 0 w (s f) (sure f)
  apart : ∀ f g, f < 4 → g < 4 → f ≠ g → ∀ b, (s f).ownBlock = some b → (s g).ownBlock ≠ some b
  row : OwnG stepc 4 196 0 w wv rs
  raw : ∀ r ∈ rs, Byt (fun _ => True) w r.v r.bytes
  rawa : ∀ r ∈ rs, ∀ f, f < 4 → ∀ b, r.v.ownBlock = some b → (s f).ownBlock ≠ some b
  wait : rs.map Rv.r = wait

structure PkV (p : Nat) (w : World) (st : Dm.Ds) (s : Nat → Value) (wv : Value) (rs : List Rv) : Prop where
  blk : w.heap[p]? = some (.cells (pcells s wv st.on (pfuse st) st.count) 116 (0, 0))
  con : Con w st.sure st.wait s wv rs
  ok : Dm.Ok st

def Pk (p : Nat) (F : Nat → Prop) (w : World) (st : Dm.Ds) : Prop := ∃ s wv rs, PkV p w st s wv rs ∧ F = FB p s wv rs

section
variable {p : Nat} {F G : Nat → Prop} {w w' w1 w2 : World} {st st' : Dm.Ds} {sure sure' : Nat → List Int} {wait wait' : List Dm.Rw} {s s' : Nat → Value} {wv wv' : Value} {rs rs' : List Rv}

theorem Con.agree (h : Con w sure wait s wv rs) (ha : ∀ g, FB p s wv rs g → w'.heap[g]? = w.heap[g]?) : Con w' sure wait s wv rs :=
  ⟨fun f hf => (h.file f hf).agree fun b hb => ha b (.inr (.inl ⟨f, hf, hb⟩)), h.apart, h.row.agree fun b hb => ha b (.inr (.inr (.inl hb))), fun r hr => (h.raw r hr).agree fun b hb => ha b (.inr (.inr (.inr ⟨r, hr, hb⟩))), h.rawa, h.wait⟩

theorem Con.cel (h : Con w sure wait s wv rs) {cs : Array Value} {t : TypeId} {fr : Nat × Nat} (hp : w.heap[p]? = some (.cells cs t fr)) : ∀ g, FB p s wv rs g → ∃ cs t fr, w.heap[g]? = some (.cells cs t fr) := by
  rintro g (rfl | ⟨f, hf, hb⟩ | hb | ⟨r, hr, hb⟩)
  · exact ⟨_, _, _, hp⟩
  · obtain ⟨cs, hc⟩ := (h.file f hf).type hb
    exact ⟨_, _, _, hc⟩
  · obtain ⟨cs, hc⟩ := h.row.type hb
    exact ⟨_, _, _, hc⟩
  · obtain ⟨_, cs, fr, hc⟩ := (h.raw r hr).2 g hb
    exact ⟨_, _, _, hc⟩

/-- The blocks of what a disk holds are none of another type. -/
theorem Con.ne (h : Con w sure wait s wv rs) {q : Nat} {cs : Array Value} {t : TypeId} {fr : Nat × Nat} (hq : w.heap[q]? = some (.cells cs t fr)) (h1 : t ≠ 5) (h2 : t ≠ 196) :
    (∀ f, f < 4 → ∀ b, (s f).ownBlock = some b → b ≠ q) ∧ (∀ b, wv.ownBlock = some b → b ≠ q) ∧ ∀ r ∈ rs, ∀ b, r.v.ownBlock = some b → b ≠ q := by
  refine ⟨fun f hf b hb e => ?_, fun b hb e => ?_, fun r hr b hb e => ?_⟩
  · obtain ⟨cs, hc⟩ := (h.file f hf).type hb
    rw [e, hq] at hc
    simp at hc
    exact h1 hc.2.1
  · obtain ⟨cs, hc⟩ := h.row.type hb
    rw [e, hq] at hc
    simp at hc
    exact h2 hc.2.1
  · obtain ⟨_, cs, fr, hc⟩ := (h.raw r hr).2 b hb
    rw [e, hq] at hc
    simp at hc
    exact h1 hc.2.1

/-- All but the block q stays, and q is none of its blocks. -/
theorem Con.but (h : Con w sure wait s wv rs) {q : Nat} {cs : Array Value} {t : TypeId} {fr : Nat × Nat} (hq : w.heap[q]? = some (.cells cs t fr)) (h1 : t ≠ 5) (h2 : t ≠ 196) (ha : ∀ b, b ≠ q → b < w.heap.size → w'.heap[b]? = w.heap[b]?) : Con w' sure wait s wv rs := by
  obtain ⟨n1, n2, n3⟩ := h.ne hq h1 h2
  exact ⟨fun f hf => (h.file f hf).agree fun b hb => ha b (n1 f hf b hb) ((h.file f hf).block b hb).2, h.apart, h.row.agree fun b hb => ha b (n2 b hb) (h.row.lt b hb).2, fun r hr => (h.raw r hr).agree fun b hb => ha b (n3 r hr b hb) (by obtain ⟨_, cs, fr, hc⟩ := (h.raw r hr).2 b hb; exact blk_lt hc), h.rawa, h.wait⟩

theorem Con.len (h : Con w sure wait s wv rs) : wait.length = rs.length := by rw [← h.wait, List.length_map]

theorem PkV.cel (h : PkV p w st s wv rs) : ∀ g, FB p s wv rs g → ∃ cs t fr, w.heap[g]? = some (.cells cs t fr) := h.con.cel h.blk
theorem PkV.lt (h : PkV p w st s wv rs) : ∀ g, FB p s wv rs g → g < w.heap.size := fun g hg => by
  obtain ⟨cs, t, fr, hc⟩ := h.cel g hg
  exact blk_lt hc
theorem PkV.agree (h : PkV p w st s wv rs) (ha : ∀ g, FB p s wv rs g → w'.heap[g]? = w.heap[g]?) : PkV p w' st s wv rs := ⟨(ha p (.inl rfl)).trans h.blk, h.con.agree ha, h.ok⟩
theorem PkV.below (h : PkV p w st s wv rs) (hb : Below w.heap.size w w') : PkV p w' st s wv rs := h.agree fun g hg => hb.block g (h.lt g hg)

theorem Pk.cel (h : Pk p F w st) : ∀ g, F g → ∃ cs t fr, w.heap[g]? = some (.cells cs t fr) := by
  obtain ⟨s, wv, rs, h, rfl⟩ := h
  exact h.cel
theorem Pk.lt (h : Pk p F w st) : ∀ g, F g → g < w.heap.size := by
  obtain ⟨s, wv, rs, h, rfl⟩ := h
  exact h.lt
theorem Pk.inp (h : Pk p F w st) : F p := by
  obtain ⟨s, wv, rs, h, rfl⟩ := h
  exact .inl rfl
theorem Pk.agree (h : Pk p F w st) (ha : ∀ g, F g → w'.heap[g]? = w.heap[g]?) : Pk p F w' st := by
  obtain ⟨s, wv, rs, h, rfl⟩ := h
  exact ⟨s, wv, rs, h.agree ha, rfl⟩
theorem Pk.below (h : Pk p F w st) (hb : Below w.heap.size w w') : Pk p F w' st := h.agree fun g hg => hb.block g (h.lt g hg)
theorem Pk.out (h : Pk p F w st) (ho : Out G w w') (hd : ∀ g, F g → ¬ G g) : Pk p F w' st := h.agree fun g hg => ho.block g (h.lt g hg) (hd g hg)
theorem Pk.ok (h : Pk p F w st) : Dm.Ok st := by
  obtain ⟨s, wv, rs, h, rfl⟩ := h
  exact h.ok

/-- What a call does to a disk: its new state; all else is as it was. -/
def PStep (p : Nat) (F : Nat → Prop) (w w' : World) (st' : Dm.Ds) : Prop := ∃ F', Pk p F' w' st' ∧ Out F w w' ∧ ∀ g, F' g → F g ∨ w.heap.size ≤ g

theorem PStep.trans {F1 : Nat → Prop} (ho : Out F w w1) (hs : ∀ g, F1 g → F g ∨ w.heap.size ≤ g) (k : PStep p F1 w1 w2 st') : PStep p F w w2 st' := by
  obtain ⟨F2, h1, h2, h3⟩ := k
  refine ⟨F2, h1, ho.trans h2 hs, fun g hg => ?_⟩
  rcases h3 g hg with h | h
  · exact hs g h
  · exact .inr (Nat.le_trans ho.size h)

theorem PStep.same (h : Pk p F w st) (hb : Below w.heap.size w w') : PStep p F w w' st := ⟨F, h.below hb, Out.of_below hb, fun g hg => .inl hg⟩

/-- Behind a call that made blocks alone. -/
theorem PStep.pre (hb : Below w.heap.size w w1) (h : PStep p F w1 w2 st') : PStep p F w w2 st' := h.trans (Out.of_below hb) fun g hg => .inl hg
theorem PStep.post (h : PStep p F w w1 st') (hb : Below w1.heap.size w1 w2) : PStep p F w w2 st' := by
  obtain ⟨F1, h1, h2, h3⟩ := h
  exact ⟨F1, h1.below hb, h2.trans (Out.of_below (F := F) hb) fun g hg => .inl hg, h3⟩

/-- One cell of the disk's block is written; what it holds is 'Con' already. -/
theorem PkV.put {cs : Array Value} (hblk : w.heap[p]? = some (.cells cs 116 (0, 0))) (j : Nat) (u : Value) (hc : cs.setIfInBounds j u = pcells s' wv' st'.on (pfuse st') st'.count) (hcon : Con w st'.sure st'.wait s' wv' rs') (hok : Dm.Ok st') :
    PkV p (w.setCell ⟨p, j, none⟩ u) st' s' wv' rs' ∧ Out (fun g => g = p) w (w.setCell ⟨p, j, none⟩ u) := by
  refine ⟨⟨by rw [set_cells hblk, hc], hcon.but hblk (by decide) (by decide) fun b hb _ => Below.heap_setCell _ _ _ _ hb, hok⟩, Out.of_grown (grown_setCell w ⟨p, j, none⟩ u) fun g hg => by simp at hg; exact hg.symm⟩

/-- Scalars alone are written. -/
theorem PkV.set (h : PkV p w st s wv rs) (j : Nat) (u : Value) (hc : (pcells s wv st.on (pfuse st) st.count).setIfInBounds j u = pcells s wv st'.on (pfuse st') st'.count) (h1 : st'.sure = st.sure) (h2 : st'.wait = st.wait) :
    PkV p (w.setCell ⟨p, j, none⟩ u) st' s wv rs ∧ Out (FB p s wv rs) w (w.setCell ⟨p, j, none⟩ u) := by
  obtain ⟨r1, r2⟩ := PkV.put (st' := st') (s' := s) (wv' := wv) (rs' := rs) h.blk j u hc (by rw [h1, h2]; exact h.con) (by have := h.ok; unfold Dm.Ok at this ⊢; rw [h1, h2]; exact this)
  exact ⟨r1, r2.mono fun g hg => .inl (.inl hg)⟩

theorem PStep.of_set (h : PkV p w' st' s wv rs) (ho : Out (FB p s wv rs) w w') : PStep p (FB p s wv rs) w w' st' := ⟨_, ⟨s, wv, rs, h, rfl⟩, ho, fun g hg => .inl hg⟩

theorem PkV.cell (h : PkV p w st s wv rs) (j : Nat) {u : Value} (hj : (pcells s wv st.on (pfuse st) st.count)[j]? = some u) : w.cell? ⟨p, j, none⟩ = some u := blk_cell h.blk j hj
theorem PkV.c0 (h : PkV p w st s wv rs) : w.cell? ⟨p, 0, none⟩ = some (.bool true) := h.cell 0 rfl
theorem PkV.c1 (h : PkV p w st s wv rs) : w.cell? ⟨p, 1, none⟩ = some (.bool st.on) := h.cell 1 rfl
theorem PkV.c2 (h : PkV p w st s wv rs) : w.cell? ⟨p, 2, none⟩ = some (.int .i64 (pfuse st)) := h.cell 2 rfl
theorem PkV.c7 (h : PkV p w st s wv rs) : w.cell? ⟨p, 7, none⟩ = some wv := h.cell 7 rfl
theorem PkV.c8 (h : PkV p w st s wv rs) : w.cell? ⟨p, 8, none⟩ = some (.int .i64 st.count) := h.cell 8 rfl
theorem pc_f {cs : Array Value} {on : Bool} {fuse count : Int} (h : w.heap[p]? = some (.cells (pcells s wv on fuse count) 116 (0, 0))) (f : Nat) (hf : f < 4) : w.cell? ⟨p, 3 + f, none⟩ = some (s f) := by
  rcases (show f = 0 ∨ f = 1 ∨ f = 2 ∨ f = 3 by omega) with rfl | rfl | rfl | rfl
  · exact blk_cell h 3 rfl
  · exact blk_cell h 4 rfl
  · exact blk_cell h 5 rfl
  · exact blk_cell h 6 rfl
theorem PkV.cf (h : PkV p w st s wv rs) (f : Nat) (hf : f < 4) : w.cell? ⟨p, 3 + f, none⟩ = some (s f) := pc_f (cs := #[]) h.blk f hf
theorem PkV.froz (h : PkV p w st s wv rs) (j : Nat) : w.frozen? ⟨p, j, none⟩ = false := blk_froz h.blk j

end

/-- A new disk. -/
theorem new_any (w : World) : Calls Tryz.prog 17 #[] w fun E w' => E = .returned (.pointer (some ⟨w.heap.size, 0, none⟩)) ∧ Pk w.heap.size (fun g => g = w.heap.size) w' Dm.new ∧ Below w.heap.size w w' := by
  obtain ⟨w1, hw1, sz1, bel1, hB⟩ := blk_step w #[.bool true, .bool true, .int .i64 (-1), .slice none 0 0, .slice none 0 0, .slice none 0 0, .slice none 0 0, .slice none 0 0, .int .i64 0] 116
  have D : Hid (Pk w.heap.size (fun g => g = w.heap.size) w1 Dm.new) := ⟨fun _ => .slice none 0 0, .slice none 0 0, [], ⟨hB, ⟨fun f _ => Own.nil _ _ _ _, fun f g _ _ _ b hb => by simp [Value.ownBlock] at hb, OwnG.nil _ _ _ _ _, fun r hr => by simp at hr, fun r hr => by simp at hr, rfl⟩, trivial⟩, by funext g; simp [FB, Value.ownBlock]⟩
  clear hB
  go_enter Tryz.func17, Tryz.ntmps17
  go_wp2
  go_ret
  exact ⟨rfl, D.out, bel1⟩

set_option maxHeartbeats 400000 in
theorem made_any (p : Nat) (F : Nat → Prop) (w : World) (st : Dm.Ds) (h : Pk p F w st) : Calls Tryz.prog 83 #[.pointer (some ⟨p, 0, none⟩)] w fun E w' => E = .returned (.bool true) ∧ w = w' := by
  obtain ⟨s, wv, rs, h, rfl⟩ := h
  have c0 := h.c0
  clear h
  go_enter Tryz.func83, Tryz.ntmps83
  go_wp2
  go_ret
  exact ⟨rfl, rfl⟩

set_option maxHeartbeats 400000 in
theorem refuses_any (p : Nat) (F : Nat → Prop) (w : World) (st : Dm.Ds) (h : Pk p F w st) : Calls Tryz.prog 66 #[.pointer (some ⟨p, 0, none⟩)] w fun E w' => E = .returned (.int .i64 (ask st)) ∧ w = w' := by
  have hn := made_any p F w st h
  obtain ⟨s, wv, rs, h, rfl⟩ := h
  have c1 := h.c1
  have HN := hide hn
  clear h hn
  cases hon : st.on
  · rw [hon] at c1
    rw [ask_off hon]
    clear hon
    go_enter Tryz.func66, Tryz.ntmps66
    go_wp2_with fail
    refine HN.out.mono ?_
    rintro E w1 ⟨rfl, rfl⟩
    go_wp2
    go_ret
    exact ⟨rfl, rfl⟩
  · rw [hon] at c1
    rw [ask_on hon]
    clear hon
    go_enter Tryz.func66, Tryz.ntmps66
    go_wp2_with fail
    refine HN.out.mono ?_
    rintro E w1 ⟨rfl, rfl⟩
    go_wp2
    go_ret
    exact ⟨rfl, rfl⟩

theorem isfile_any (f : Int) (w : World) : Calls Tryz.prog 126 #[.int .i64 f] w fun E w' => E = .returned (.bool (Dm.inF f)) ∧ w = w' := by
  unfold Dm.inF
  by_cases h0 : 0 ≤ f
  · by_cases h4 : f < 4
    · rw [decide_eq_true h0, decide_eq_true h4]
      go_enter Tryz.func126, Tryz.ntmps126
      go_wp2
      go_ret
      exact ⟨rfl, rfl⟩
    · rw [decide_eq_true h0, decide_eq_false h4]
      go_enter Tryz.func126, Tryz.ntmps126
      go_wp2
      go_ret
      exact ⟨rfl, rfl⟩
  · rw [decide_eq_false h0, Bool.false_and]
    go_enter Tryz.func126, Tryz.ntmps126
    go_wp2
    go_ret
    exact ⟨rfl, rfl⟩

set_option maxHeartbeats 400000 in
theorem on_any (p : Nat) (F : Nat → Prop) (w : World) (st : Dm.Ds) (h : Pk p F w st) : Calls Tryz.prog 108 #[.pointer (some ⟨p, 0, none⟩)] w fun E w' => E = .returned (.bool st.on) ∧ w = w' := by
  have hn := made_any p F w st h
  obtain ⟨s, wv, rs, h, rfl⟩ := h
  have c1 := h.c1
  have HN := hide hn
  clear h hn
  go_enter Tryz.func108, Tryz.ntmps108
  go_wp2_with fail
  refine HN.out.mono ?_
  rintro E w1 ⟨rfl, rfl⟩
  go_wp2
  go_ret
  exact ⟨rfl, rfl⟩

set_option maxHeartbeats 400000 in
theorem steps_any (p : Nat) (F : Nat → Prop) (w : World) (st : Dm.Ds) (h : Pk p F w st) : Calls Tryz.prog 32 #[.pointer (some ⟨p, 0, none⟩)] w fun E w' => E = .returned (.int .i64 st.count) ∧ w = w' := by
  have hn := made_any p F w st h
  obtain ⟨s, wv, rs, h, rfl⟩ := h
  have c8 := h.c8
  have HN := hide hn
  clear h hn
  go_enter Tryz.func32, Tryz.ntmps32
  go_wp2_with fail
  refine HN.out.mono ?_
  rintro E w1 ⟨rfl, rfl⟩
  go_wp2
  go_ret
  exact ⟨rfl, rfl⟩

set_option maxHeartbeats 400000 in
theorem pull_any (p : Nat) (F : Nat → Prop) (w : World) (st : Dm.Ds) (h : Pk p F w st) :
    Calls Tryz.prog 100 #[.pointer (some ⟨p, 0, none⟩)] w fun E w' => E = .returned (.int .i64 (Dm.pull st).1) ∧ PStep p F w w' (Dm.pull st).2 := by
  have ha := refuses_any p F w st h
  have HK := hide h
  obtain ⟨s, wv, rs, h, rfl⟩ := h
  have c1 := h.c1
  have f1 := h.froz 1
  have R := h.set (st' := Dm.dark st) 1 (.bool false) rfl rfl rfl
  have HR : Hid (PStep p (FB p s wv rs) w (w.setCell ⟨p, 1, none⟩ (.bool false)) (Dm.dark st)) := PStep.of_set R.1 R.2
  have HA := hide ha
  clear h R ha
  unfold Dm.pull
  cases hon : st.on
  · rw [if_pos rfl]
    have hk := ask_off hon
    clear hon
    go_enter Tryz.func100, Tryz.ntmps100
    go_wp2_with fail
    refine HA.out.mono ?_
    rintro E w1 ⟨rfl, rfl⟩
    rw [hk]
    go_wp2
    go_ret
    exact ⟨rfl, PStep.same HK.out (Below.refl _ _)⟩
  · rw [if_neg (by simp)]
    have hk := ask_on hon
    clear hon
    go_enter Tryz.func100, Tryz.ntmps100
    go_wp2_with fail
    refine HA.out.mono ?_
    rintro E w1 ⟨rfl, rfl⟩
    rw [hk]
    go_wp2
    go_ret
    exact ⟨rfl, HR.out⟩

set_option maxHeartbeats 400000 in
theorem fuse_any (p : Nat) (F : Nat → Prop) (w : World) (st : Dm.Ds) (n : Int) (h : Pk p F w st) :
    Calls Tryz.prog 21 #[.pointer (some ⟨p, 0, none⟩), .int .i64 n] w fun E w' => E = .returned (.int .i64 (Dm.fuse st n).1) ∧ PStep p F w w' (Dm.fuse st n).2 := by
  have ha := refuses_any p F w st h
  have HK := hide h
  obtain ⟨s, wv, rs, h, rfl⟩ := h
  have c2 := h.c2
  have f2 := h.froz 2
  have HA := hide ha
  clear ha
  unfold Dm.fuse
  cases hon : st.on
  · rw [if_pos rfl]
    have hk := ask_off hon
    clear hon h
    go_enter Tryz.func21, Tryz.ntmps21
    go_wp2_with fail
    refine HA.out.mono ?_
    rintro E w1 ⟨rfl, rfl⟩
    rw [hk]
    go_wp2
    go_ret
    exact ⟨rfl, PStep.same HK.out (Below.refl _ _)⟩
  · rw [if_neg (by simp)]
    have hk := ask_on hon
    by_cases hn : n < 0
    · rw [if_pos hn]
      clear hon h
      go_enter Tryz.func21, Tryz.ntmps21
      go_wp2_with fail
      refine HA.out.mono ?_
      rintro E w1 ⟨rfl, rfl⟩
      rw [hk]
      go_wp2
      go_ret
      exact ⟨rfl, PStep.same HK.out (Below.refl _ _)⟩
    · rw [if_neg hn]
      have hcast : ((n.toNat : Nat) : Int) = n := by omega
      have R := h.set (st' := { st with has := true, left := n.toNat }) 2 (.int .i64 n) (by simp [pcells, pfuse, hcast]) rfl rfl
      have HR : Hid (PStep p (FB p s wv rs) w (w.setCell ⟨p, 2, none⟩ (.int .i64 n)) { st with has := true, left := n.toNat }) := PStep.of_set R.1 R.2
      have hs : { st with has := true, left := n.toNat } = ({ sure := st.sure, wait := st.wait, on := true, has := true, left := n.toNat, count := st.count } : Dm.Ds) := by rw [← hon]
      rw [hs] at HR
      clear h R hs hcast hon
      go_enter Tryz.func21, Tryz.ntmps21
      go_wp2_with fail
      refine HA.out.mono ?_
      rintro E w1 ⟨rfl, rfl⟩
      rw [hk]
      go_wp2
      go_ret
      exact ⟨rfl, HR.out⟩

end Go.Proofs.YthmecljkackmbaaGreat

/- Of which types the blocks of rows and of a disk are. No program. -/
namespace Go.Proofs.YthmecljkackmbaaGreat
open Go.RowKit
set_option linter.unusedVariables false

section
variable {base : Nat} {w : World} {F : Nat → Prop}

theorem OwnR.type {e : TypeId} {r : List Cw} {v : Value} (h : OwnR e base w v r) {g : Nat} (hg : v.ownBlock = some g) : ∃ cs, w.heap[g]? = some (.cells cs e (0, 0)) := by
  rcases h.2 with ⟨rfl, _⟩ | ⟨g', cap, cur, rfl, _, hh, _⟩
  · simp [Value.ownBlock] at hg
  · simp [Value.ownBlock] at hg
    subst hg
    exact ⟨_, hh⟩

theorem OwnO.type {e : TypeId} {r : List Bm.Ov} {v : Value} (h : OwnO e base w v r) {g : Nat} (hg : v.ownBlock = some g) : ∃ cs, w.heap[g]? = some (.cells cs e (0, 0)) := by
  rcases h.2 with ⟨rfl, _⟩ | ⟨g', cap, cur, rfl, _, hh, _⟩
  · simp [Value.ownBlock] at hg
  · simp [Value.ownBlock] at hg
    subst hg
    exact ⟨_, hh⟩

/-- Of which types a disk's blocks are. -/
theorem Pk.ty {p : Nat} {st : Dm.Ds} (h : Pk p F w st) : ∀ g, F g → ∃ cs t fr, w.heap[g]? = some (.cells cs t fr) ∧ (t = 116 ∨ t = 5 ∨ t = 196) := by
  obtain ⟨s, wv, rs, h, rfl⟩ := h
  rintro g (rfl | ⟨f, hf, hb⟩ | hb | ⟨r, hr, hb⟩)
  · exact ⟨_, _, _, h.blk, .inl rfl⟩
  · obtain ⟨cs, hc⟩ := (h.con.file f hf).type hb
    exact ⟨_, _, _, hc, .inr (.inl rfl)⟩
  · obtain ⟨cs, hc⟩ := h.con.row.type hb
    exact ⟨_, _, _, hc, .inr (.inr rfl)⟩
  · obtain ⟨_, cs, fr, hc⟩ := (h.con.raw r hr).2 g hb
    exact ⟨_, _, _, hc, .inr (.inl rfl)⟩

end

theorem IsO.out {F : Nat → Prop} {w w' : World} {v : Value} {l : List Bm.Ov} (h : IsO w v l) (ho : Out F w w') (hF : 0 < l.length → ∀ b, v.ownBlock = some b → ¬ F b) : IsO w' v l := by
  rcases h with h | ⟨ad, cap, hv, h1, h2, hc⟩
  · exact .inl h
  · refine .inr ⟨ad, cap, hv, h1, h2, fun j u hj => ?_⟩
    have hk := hc j u hj
    have hl : 0 < l.length := by
      rcases l with _ | ⟨x, l⟩
      · simp [ocells] at hj
      · simp
    have eb : (ad.add j).block = ad.block := by unfold Addr.add; split <;> rfl
    have hlt := World.block_lt_of_cell? _ _ hk
    rw [World.cell?_of_block (ho.block _ hlt (by rw [eb]; exact hF hl _ (by rw [hv]; rfl)))]
    exact hk

theorem Out.flip {F : Nat → Prop} {w w1 w2 : World} (h : Out F w1 w2) (hb : Below w.heap.size w w1) : Out F w w2 := (Out.of_below (F := F) hb).trans h fun g hg => .inl hg

end Go.Proofs.YthmecljkackmbaaGreat

/- Runs in memory: the program's object, its list and its disk. -/
namespace Go.Proofs.YthmecljkackmbaaGreat
open Go.RowKit
set_option linter.unusedVariables false

theorem good_get {rs : List Cw} {l : List Cm.Cv} (h : Rl.Good 0 l) (he : cvs rs = l) : ∀ c ∈ rs, Rn.chk c.e c.n c.l = 0 := fun c hc => by
  refine Rl.good_all h c.c ?_
  rw [← he]
  exact List.mem_map.2 ⟨c, hc, rfl⟩

theorem fit_run {f u : Int} {l : List Bm.Ov} (h : Rn.chk f u l = 0) : FitO l ∧ l.length * 40 ≤ 140737488351232 ∧ In64 f ∧ In64 u ∧ l.length ≤ 1024 := by
  obtain ⟨h1, h2, h3, h4, h5⟩ := Rn.chk_zero h
  refine ⟨fun o ho => ?_, by omega, ⟨by omega, by omega⟩, ⟨by omega, by omega⟩, h1⟩
  obtain ⟨_, k2, k3, _⟩ := Om.chk_ok' (Rn.may_c h5 o ho)
  have e1 : o.k.size = o.k.data.toList.length := rfl
  have e2 : o.v.size = o.v.data.toList.length := rfl
  have e3 : o.kl = o.k.data.toList := rfl
  have e4 : o.vl = o.v.data.toList := rfl
  rw [e3] at k2
  rw [e4] at k3
  omega

/-- A list of runs in memory: a row of its own, and the ops of each. -/
structure Rq (base : Nat) (w : World) (l : List Cm.Cv) (v : Value) (rs : List Cw) : Prop where
  row : OwnR 93 base w v rs
  cop : CopyR base w rs
  is : cvs rs = l
  good : Rl.Good 0 l

/-- Its blocks. -/
def QB (v : Value) (rs : List Cw) (g : Nat) : Prop := v.ownBlock = some g ∨ ∃ c ∈ rs, c.v.ownBlock = some g

section
variable {base base' : Nat} {w w' : World} {l : List Cm.Cv} {v : Value} {rs : List Cw} {F G : Nat → Prop}

theorem Rq.nil (base : Nat) (w : World) : Rq base w [] (.slice none 0 0) [] := ⟨OwnR.nil _ _ _, fun c hc => by simp at hc, rfl, trivial⟩

theorem Rq.ty (h : Rq base w l v rs) : ∀ g, QB v rs g → ∃ cs t, w.heap[g]? = some (.cells cs t (0, 0)) ∧ (t = 93 ∨ t = 81) := by
  rintro g (hb | ⟨c, hc, hb⟩)
  · obtain ⟨cs, e⟩ := h.row.type hb
    exact ⟨_, _, e, .inl rfl⟩
  · obtain ⟨cs, e⟩ := (h.cop c hc).type hb
    exact ⟨_, _, e, .inr rfl⟩

theorem Rq.lt (h : Rq base w l v rs) : ∀ g, QB v rs g → g < w.heap.size := fun g hg => by
  obtain ⟨cs, t, e, _⟩ := h.ty g hg
  exact blk_lt e

theorem Rq.ge (h : Rq base w l v rs) : ∀ g, QB v rs g → base ≤ g := by
  rintro g (hb | ⟨c, hc, hb⟩)
  · exact (World.ownsRow.lt h.row g hb).1
  · exact ((h.cop c hc).block g hb).1

theorem Rq.agree (h : Rq base w l v rs) (ha : ∀ g, QB v rs g → w'.heap[g]? = w.heap[g]?) : Rq base w' l v rs :=
  ⟨row_agree h.row fun b hb => ha b (.inl hb), fun c hc => row_agree (h.cop c hc) fun b hb => ha b (.inr ⟨c, hc, hb⟩), h.is, h.good⟩

theorem Rq.below (h : Rq base w l v rs) (hb : Below w.heap.size w w') : Rq base w' l v rs := h.agree fun g hg => hb.block g (h.lt g hg)

theorem Rq.rebase (h : Rq base w l v rs) (hb : base' ≤ base) : Rq base' w l v rs := ⟨row_rebase h.row hb, fun c hc => (h.cop c hc).rebase hb, h.is, h.good⟩

/-- A block of another type is none of its. -/
theorem Rq.ne (h : Rq base w l v rs) {b : Nat} {cs : Array Value} {t : TypeId} {fr : Nat × Nat} (hb : w.heap[b]? = some (.cells cs t fr)) (h1 : t ≠ 93) (h3 : t ≠ 81) : ¬ QB v rs b := by
  intro hg
  obtain ⟨cs', t', e, ht⟩ := h.ty b hg
  rw [hb] at e
  simp only [Option.some.injEq, Obj.cells.injEq] at e
  obtain ⟨_, e2, _⟩ := e
  subst e2
  rcases ht with e | e
  · exact h1 e
  · exact h3 e

theorem Rq.len (h : Rq base w l v rs) : rs.length = l.length := by rw [← h.is, cvs, List.length_map]

theorem Rq.len_le (h : Rq base w l v rs) : rs.length ≤ 1048576 := by rw [h.len]; exact (Rl.good_len h.good).1

theorem Rq.isc (h : Rq base w l v rs) : IsC w v rs := ⟨h.row.row, fun c hc => ⟨(h.cop c hc).is, (fit_run (good_get h.good h.is c hc)).2.2.1, (fit_run (good_get h.good h.is c hc)).2.2.2.1⟩⟩

theorem Rq.fit (h : Rq base w l v rs) : FitC rs := fun c hc => ⟨(fit_run (good_get h.good h.is c hc)).1, (fit_run (good_get h.good h.is c hc)).2.1⟩

theorem Rq.at (h : Rq base w l v rs) {k : Nat} {c : Cw} (hc : rs[k]? = some c) : l[k]? = some c.c := by rw [← h.is, cvs, List.getElem?_map, hc]; rfl

/-- Runs in memory: their block p, its disk's block q. -/
structure RkV (p q : Nat) (w : World) (l : List Cm.Cv) (bk : Bool) (v : Value) (rs : List Cw) : Prop where
  blk : w.heap[p]? = some (.cells #[.pointer (some ⟨q, 0, none⟩), .bool bk, v] 71 (0, 0))
  log : Rq 0 w l v rs

def Rk (p q : Nat) (G : Nat → Prop) (w : World) (l : List Cm.Cv) (bk : Bool) : Prop := ∃ v rs, RkV p q w l bk v rs ∧ G = fun g => g = p ∨ QB v rs g

theorem RkV.ty {p q : Nat} {bk : Bool} (h : RkV p q w l bk v rs) : ∀ g, g = p ∨ QB v rs g → ∃ cs t, w.heap[g]? = some (.cells cs t (0, 0)) ∧ (t = 71 ∨ t = 93 ∨ t = 81) := by
  rintro g (rfl | hg)
  · exact ⟨_, _, h.blk, .inl rfl⟩
  · obtain ⟨cs, t, e, ht⟩ := h.log.ty g hg
    exact ⟨cs, t, e, .inr ht⟩

theorem Rk.ty {p q : Nat} {bk : Bool} (h : Rk p q G w l bk) : ∀ g, G g → ∃ cs t, w.heap[g]? = some (.cells cs t (0, 0)) ∧ (t = 71 ∨ t = 93 ∨ t = 81) := by
  obtain ⟨v, rs, h, rfl⟩ := h
  exact h.ty

theorem Rk.lt {p q : Nat} {bk : Bool} (h : Rk p q G w l bk) : ∀ g, G g → g < w.heap.size := fun g hg => by
  obtain ⟨cs, t, e, _⟩ := h.ty g hg
  exact blk_lt e

theorem Rk.agree {p q : Nat} {bk : Bool} (h : Rk p q G w l bk) (ha : ∀ g, G g → w'.heap[g]? = w.heap[g]?) : Rk p q G w' l bk := by
  obtain ⟨v, rs, h, rfl⟩ := h
  exact ⟨v, rs, ⟨(ha p (.inl rfl)).trans h.blk, h.log.agree fun g hg => ha g (.inr hg)⟩, rfl⟩

theorem Rk.below {p q : Nat} {bk : Bool} (h : Rk p q G w l bk) (hb : Below w.heap.size w w') : Rk p q G w' l bk := h.agree fun g hg => hb.block g (h.lt g hg)
theorem Rk.out {p q : Nat} {bk : Bool} (h : Rk p q G w l bk) (ho : Out F w w') (hd : ∀ g, G g → ¬ F g) : Rk p q G w' l bk := h.agree fun g hg => ho.block g (h.lt g hg) (hd g hg)
theorem Rk.good {p q : Nat} {bk : Bool} (h : Rk p q G w l bk) : Rl.Good 0 l := by
  obtain ⟨v, rs, h, rfl⟩ := h
  exact h.log.good
theorem Rk.inp {p q : Nat} {bk : Bool} (h : Rk p q G w l bk) : G p := by
  obtain ⟨v, rs, h, rfl⟩ := h
  exact .inl rfl

/-- Runs' blocks are none of their disk's. -/
theorem rk_pk {p q q' : Nat} {bk : Bool} {st : Dm.Ds} (h : Rk p q G w l bk) (k : Pk q' F w st) : ∀ g, G g → ¬ F g := by
  intro g hg hf
  obtain ⟨cs, t, e, ht⟩ := h.ty g hg
  obtain ⟨cs', t', fr, e', ht'⟩ := k.ty g hf
  rw [e] at e'
  simp only [Option.some.injEq, Obj.cells.injEq] at e'
  obtain ⟨_, e2, _⟩ := e'
  subst e2
  rcases ht with rfl | rfl | rfl <;> rcases ht' with e | e | e <;> exact absurd e (by decide)

end

/-- Runs and their disk. -/
def RW (p q : Nat) (F : Nat → Prop) (w : World) (s : Rl.Rs) : Prop := ∃ F1 G1, Pk q F1 w s.d ∧ Rk p q G1 w s.l s.bk ∧ F = fun g => F1 g ∨ G1 g

/-- What a call leaves of them. -/
def RStep (p q : Nat) (F : Nat → Prop) (w w' : World) (s' : Rl.Rs) : Prop := ∃ F', RW p q F' w' s' ∧ Out F w w' ∧ ∀ g, F' g → F g ∨ w.heap.size ≤ g

section
variable {p q : Nat} {F G : Nat → Prop} {w w' w1 w2 : World} {s s' : Rl.Rs} {st' : Dm.Ds}

theorem RW.lt (h : RW p q F w s) : ∀ g, F g → g < w.heap.size := by
  obtain ⟨F1, G1, h1, h2, rfl⟩ := h
  rintro g (hg | hg)
  · exact h1.lt g hg
  · exact h2.lt g hg

theorem RW.agree (h : RW p q F w s) (ha : ∀ g, F g → w'.heap[g]? = w.heap[g]?) : RW p q F w' s := by
  obtain ⟨F1, G1, h1, h2, rfl⟩ := h
  exact ⟨F1, G1, h1.agree fun g hg => ha g (.inl hg), h2.agree fun g hg => ha g (.inr hg), rfl⟩
theorem RW.below (h : RW p q F w s) (hb : Below w.heap.size w w') : RW p q F w' s := h.agree fun g hg => hb.block g (h.lt g hg)
theorem RW.out (h : RW p q F w s) (ho : Out G w w') (hd : ∀ g, F g → ¬ G g) : RW p q F w' s := h.agree fun g hg => ho.block g (h.lt g hg) (hd g hg)
theorem RW.good (h : RW p q F w s) : Rl.Good 0 s.l := by
  obtain ⟨F1, G1, h1, h2, rfl⟩ := h
  exact h2.good

theorem RStep.trans {F1 : Nat → Prop} (ho : Out F w w1) (hs : ∀ g, F1 g → F g ∨ w.heap.size ≤ g) (k : RStep p q F1 w1 w2 s') : RStep p q F w w2 s' := by
  obtain ⟨F2, h1, h2, h3⟩ := k
  refine ⟨F2, h1, ho.trans h2 hs, fun g hg => ?_⟩
  rcases h3 g hg with h | h
  · exact hs g h
  · exact .inr (Nat.le_trans ho.size h)
theorem RStep.same (h : RW p q F w s) (hb : Below w.heap.size w w') : RStep p q F w w' s := ⟨F, h.below hb, Out.of_below hb, fun g hg => .inl hg⟩
theorem RStep.pre (hb : Below w.heap.size w w1) (h : RStep p q F w1 w2 s') : RStep p q F w w2 s' := h.trans (Out.of_below hb) fun g hg => .inl hg
theorem RStep.post (h : RStep p q F w w1 s') (hb : Below w1.heap.size w1 w2) : RStep p q F w w2 s' := by
  obtain ⟨F1, h1, h2, h3⟩ := h
  exact ⟨F1, h1.below hb, h2.trans (Out.of_below (F := F) hb) fun g hg => .inl hg, h3⟩

/-- A step of the disk alone. -/
theorem RW.disk {F1 G1 : Nat → Prop} {l : List Cm.Cv} {bk : Bool} (h1 : Pk q F1 w s.d) (h2 : Rk p q G1 w l bk) (k : PStep q F1 w w' st') :
    ∃ F2, Pk q F2 w' st' ∧ Rk p q G1 w' l bk ∧ Out F1 w w' ∧ ∀ g, F2 g → F1 g ∨ w.heap.size ≤ g := by
  obtain ⟨F2, k1, k2, k3⟩ := k
  exact ⟨F2, k1, h2.out k2 (rk_pk h2 h1), k2, k3⟩

end

end Go.Proofs.YthmecljkackmbaaGreat

/- The contracts of run.Encode. -/
namespace Go.Proofs.YthmecljkackmbaaGreat
open Go.RowKit
open Bm (Ov)
set_option linter.unusedVariables false

theorem Tryz.nx0 (a b c : Int) (w : World) : (Instr.index 179 (.agg #[.int .i64 a, .int .i64 b, .int .i64 c]) (.int .i64 0)).run Tryz.prog w = .ok (.int .i64 a) w := by kernel_rfl

theorem Tryz.nx1 (a b c : Int) (w : World) : (Instr.index 179 (.agg #[.int .i64 a, .int .i64 b, .int .i64 c]) (.int .i64 1)).run Tryz.prog w = .ok (.int .i64 b) w := by kernel_rfl

theorem Tryz.nx2 (a b c : Int) (w : World) : (Instr.index 179 (.agg #[.int .i64 a, .int .i64 b, .int .i64 c]) (.int .i64 2)).run Tryz.prog w = .ok (.int .i64 c) w := by kernel_rfl

theorem wrap_u64n (z : Int) (h0 : 0 ≤ z) (h1 : z < 9223372036854775808) : IntKind.u64.wrap z = z := by
  simp [IntKind.wrap, IntKind.bits, IntKind.signed]
  omega

/-- The bytes of a run's numbers, the first k of them. -/
def nmb (f u : Int) (m k : Nat) : List Int := match k with
  | 0 => []
  | 1 => Vm.enc f.toNat
  | 2 => Vm.enc f.toNat ++ Vm.enc u.toNat
  | _ => Vm.enc f.toNat ++ Vm.enc u.toNat ++ Vm.enc m

theorem nmb_len {f u : Int} {m : Nat} (hf : f ≤ 1048576) (hu : u ≤ 1048576) (hm : m ≤ 1024) (k : Nat) : (nmb f u m k).length ≤ 9 := by
  have a := Cm.enc_small hf
  have b := Cm.enc_small hu
  have c : (Vm.enc m).length ≤ 3 := Vm.sz_le 2 m (by omega)
  unfold nmb
  split
  · simp
  · omega
  · rw [List.length_append]; omega
  · rw [List.length_append, List.length_append]; omega

theorem nmb_all (f u : Int) (l : List Ov) : nmb f u l.length 3 ++ Rn.ens l = Rn.encR f u l := by simp [nmb, Rn.encR]

theorem ens_next {l : List Ov} {k : Nat} {o : Ov} (h : l[k]? = some o) : Rn.ens (l.take (k + 1)) = Rn.ens (l.take k) ++ Om.opEnc o.p o.kl o.vl := by
  obtain ⟨h1, rfl⟩ := List.getElem?_eq_some_iff.1 h
  rw [List.take_succ_eq_append_getElem h1, Rn.ens_snoc]

set_option maxRecDepth 20000 in
set_option maxHeartbeats 2000000 in
theorem henc_any (e n : Int) (v : Value) (l : List Ov) (w : World) (h : IsO w v l) (hf : FitO l) (hl : l.length ≤ 140737488355328) :
    Calls Tryz.prog 92 #[cmv e n v] w fun E w' => ∃ vb, E = .returned (.tuple #[vb, .int .i64 (Rn.chk e n l)]) ∧ Own .u8 5 w.heap.size w' vb (Rn.out e n l) ∧ Below w.heap.size w w' := by
  obtain ⟨w1, hw1, sz1, bel1, hB⟩ := blk_step w #[.int .i64 e, .int .i64 n, v] 93
  have c0 := blk_cell hB 0 rfl
  have c1 := blk_cell hB 1 rfl
  have c2 := blk_cell hB 2 rfl
  have HM := hide (hcheck_any e n v l w1 (h.below bel1) hf hl)
  have HFULL := hide fun (h0 : 0 < l.length) => h.full h0
  unfold cmv at HM ⊢
  obtain ⟨ao, cap, rfl, _, _⟩ := h.shape
  obtain ⟨ch, hch⟩ : ∃ x, Rn.chk e n l = x := ⟨_, rfl⟩
  rw [hch] at HM ⊢
  have HA := hide hch
  have HF := hide hf
  obtain ⟨m, hmm⟩ : ∃ m, l.length = m := ⟨_, rfl⟩
  rw [hmm] at HFULL hl c2 hw1 HM ⊢
  have HN := hide hmm
  clear h hf hch hB hmm
  go_enter Tryz.func92, Tryz.ntmps92
  go_wp2_with fail
  refine HM.out.mono ?_
  rintro E w2 ⟨rfl, bel2⟩
  have sz2 := bel2.size
  have bel02 := bel1.trans (bel2.mono bel1.size)
  have d0 := (bel2.cell (p := ⟨w.heap.size, 0, none⟩) (show w.heap.size < w1.heap.size by omega)).trans c0
  have d1 := (bel2.cell (p := ⟨w.heap.size, 1, none⟩) (show w.heap.size < w1.heap.size by omega)).trans c1
  have d2 := (bel2.cell (p := ⟨w.heap.size, 2, none⟩) (show w.heap.size < w1.heap.size by omega)).trans c2
  clear c0 c1 c2 HM bel2
  by_cases h0 : ch = 0
  · subst h0
    have HZ := hide (Rn.chk_zero HA.out)
    obtain ⟨g1, g2, g3, g4, _⟩ := HZ.out
    rw [HN.out] at g1
    have hml : (m : Int) ≤ 1024 := by omega
    have HNM := hide (fun k => nmb_len (f := e) (u := n) (m := m) (by omega) g4 g1 k)
    go_wp2
    go_loopw [5, 25] (fun bb kk wr => ∃ k : Nat, k ≤ 3 ∧ kk = .int .i64 k ∧ Own .u8 5 w.heap.size wr bb (nmb e n m k) ∧ Below w2.heap.size w2 wr) (fun _ kk _ => 4 - (intOf kk).toNat)
    case atStart => exact ⟨0, by omega, rfl, Own.nil _ _ _ _, Below.refl _ _⟩
    case round =>
      obtain ⟨k, hk, rfl, own, belr⟩ := hrel
      have szr := belr.size
      have hln := HNM.out k
      rcases (show k = 0 ∨ k = 1 ∨ k = 2 ∨ k = 3 by omega) with rfl | rfl | rfl | rfl
      · have hix := Tryz.nx0 e n m
        have hwr := wrap_u64n e (by omega) (by omega)
        go_wp2_with fail
        refine (app_any _ _ e _ own.is (by omega) (by omega) (by omega)).mono ?_
        rintro E w4 ⟨v4, rfl, own4, bel4⟩
        have own5 : Own .u8 5 w.heap.size w4 v4 (nmb e n m 1) := by simpa [nmb] using own4.rebase (base' := w.heap.size) (by omega)
        have bel5 := belr.trans (bel4.mono (by omega))
        clear own own4 bel4
        go_wp2
        go_roundw
        case rel => exact ⟨1, by omega, rfl, own5, bel5⟩
        case measure => simp [intOf]
      · have hix := Tryz.nx1 e n m
        have hwr := wrap_u64n n (by omega) (by omega)
        go_wp2_with fail
        refine (app_any _ _ n _ own.is (by omega) (by omega) (by omega)).mono ?_
        rintro E w4 ⟨v4, rfl, own4, bel4⟩
        have own5 : Own .u8 5 w.heap.size w4 v4 (nmb e n m 2) := own4.rebase (base' := w.heap.size) (by omega)
        have bel5 := belr.trans (bel4.mono (by omega))
        clear own own4 bel4
        go_wp2
        go_roundw
        case rel => exact ⟨2, by omega, rfl, own5, bel5⟩
        case measure => simp [intOf]
      · have hix := Tryz.nx2 e n m
        have hwr := wrap_u64n m (by omega) (by omega)
        go_wp2_with fail
        refine (app_any _ _ m _ own.is (by omega) (by omega) (by omega)).mono ?_
        rintro E w4 ⟨v4, rfl, own4, bel4⟩
        have own5 : Own .u8 5 w.heap.size w4 v4 (nmb e n m 3) := by simpa [nmb] using own4.rebase (base' := w.heap.size) (by omega)
        have bel5 := belr.trans (bel4.mono (by omega))
        clear own own4 bel4
        go_wp2
        go_roundw
        case rel => exact ⟨3, by omega, rfl, own5, bel5⟩
        case measure => simp [intOf]
      · have x2 := (belr.cell (p := ⟨w.heap.size, 2, none⟩) (show w.heap.size < w2.heap.size by omega)).trans d2
        have belq := bel02.trans (belr.mono bel02.size)
        have hln3 := hln
        clear d0 d1 d2 belr bel02 hln
        go_wp2
        go_loopw [5, 36] (fun bb kk ws => ∃ k : Nat, k ≤ m ∧ kk = .int .i64 k ∧ Own .u8 5 w.heap.size ws bb (nmb e n m 3 ++ Rn.ens (l.take k)) ∧ Below w.heap.size w ws) (fun _ kk _ => m - (intOf kk).toNat)
        case atStart => exact ⟨0, by omega, rfl, by simpa [Rn.ens] using own, belq⟩
        case round =>
          obtain ⟨k, hk, rfl, ownk, bel⟩ := hrel
          have sz := bel.size
          by_cases hlt : k < m
          · obtain ⟨o, ho⟩ : ∃ o, l[k]? = some o := ⟨l[k]'(by have := HN.out; omega), by rw [List.getElem?_eq_getElem]⟩
            obtain ⟨b1, o1, cq, hvx, _, _, hB, hcell⟩ := HFULL.out (by omega)
            simp only [Value.slice.injEq, true_and] at hvx
            obtain ⟨rfl, rfl⟩ := hvx
            obtain ⟨c0, c1, c2⟩ := hcell k o ho
            have d0 := (bel.cell (p := ⟨b1, o1 + k * 3, none⟩) hB).trans c0
            have d1 := (bel.cell (p := ⟨b1, o1 + k * 3 + 1, none⟩) hB).trans c1
            have d2 := (bel.cell (p := ⟨b1, o1 + k * 3 + 2, none⟩) hB).trans c2
            have HO := hide ho
            clear c0 c1 c2 ho hcell
            have hlt' : (k : Int) < m := by omega
            obtain ⟨hk1, hv1⟩ := HF.out o (List.mem_of_getElem? HO.out)
            obtain ⟨W1, hW1, szw, bW1, B1⟩ := blk_step wr #[.bool o.p, .string o.k, .string o.v] 81
            have e0 := blk_cell B1 0 rfl
            have e1 := blk_cell B1 1 rfl
            have e2 := blk_cell B1 2 rfl
            have b01 : Below w.heap.size w W1 := bel.trans (bW1.mono sz)
            have own1 := ownk.below bW1
            have hoc : o.c = 0 := Rn.may_c HZ.out.2.2.2.2 o (List.mem_of_getElem? HO.out)
            clear B1 bW1 bel ownk
            go_wp2_with fail
            refine (oapp_any (.slice none 0 0) [] o.p o.k o.v _ (Is.nil _ _) (by simp) hk1 hv1).mono ?_
            rintro E w5 ⟨v5, rfl, own5, bel5⟩
            have hok : Om.chk o.p o.k.data.toList o.v.data.toList = 0 := hoc
            rw [Om.appd_ok hok, List.nil_append] at own5
            rw [hok]
            have own6 := own1.below bel5
            have b05 : Below w.heap.size w w5 := b01.trans (bel5.mono b01.size)
            have hz5 := b05.size
            have hle1 : (Om.opEnc o.p o.k.data.toList o.v.data.toList).length ≤ 51 := Om.opEnc_le hok
            have hle2 : (Rn.ens (l.take k)).length ≤ 51 * 1024 := by
              have := Rn.ens_le (l := l.take k) fun q hq => Rn.may_c HZ.out.2.2.2.2 q (List.mem_of_mem_take hq)
              rw [List.length_take] at this
              omega
            have is5 := own5.is
            have hlen : ((nmb e n m 3 ++ Rn.ens (l.take k)).length + (Om.opEnc o.p o.k.data.toList o.v.data.toList).length) * 1 ≤ 150000000000000 := by
              rw [List.length_append]
              omega
            clear own1 own5 bel5 b01 e0 e1 e2 d0 d1 d2 hok hoc
            go_wp2_with (at_builtin; refine wpList_append_is rfl (.tmp 45) (.tmp 46) 112 rfl .u8 5 w.heap.size 1 Tryz.underlying112 Tryz.info5 (by decide) _ _ rfl own6 _ _ rfl is5 hlen hz5 ?_)
            rintro v7 w7 own7 bel7 _
            have own8 : Own .u8 5 w.heap.size w7 v7 (nmb e n m 3 ++ Rn.ens (l.take (k + 1))) := by
              rw [ens_next HO.out]
              exact own7
            have bel8 := b05.trans bel7
            clear own6 own7 is5 bel7 b05
            go_wp2
            go_roundw
            case rel => exact ⟨v7, _, _, _, .int .i64 ((k : Int) + 1), _, _, _, _, _, _, _, _, _, _, _, _, ⟨k + 1, by omega, by go_num, own8, bel8⟩, rfl⟩
            case measure => simp [intOf]; omega
          · have hlt' : ¬ (k : Int) < m := by omega
            have OW : Hid (Own .u8 5 w.heap.size wr u5 (Rn.out e n l)) := hide (by
              rw [Rn.out_ok HA.out, ← nmb_all, HN.out]
              rw [List.take_of_length_le (by have := HN.out; omega)] at ownk
              exact ownk)
            clear ownk
            go_wp2
            go_ret2
            exact ⟨_, rfl, OW.out, bel⟩
  · have hne : (ch != 0) = true := by simp [h0]
    have HO : Hid (Rn.out e n l = []) := hide (Rn.out_no (by rw [HA.out]; exact h0))
    go_wp2
    go_ret2
    exact ⟨_, rfl, by rw [HO.out]; exact Own.nil _ _ _ _, bel02⟩

end Go.Proofs.YthmecljkackmbaaGreat

/- Rows of lists of bytes in memory. No program but its types. -/
namespace Go.Proofs.YthmecljkackmbaaGreat
open Go.RowKit
set_option linter.unusedVariables false

/-- A list of bytes of a row: its value, its bytes. -/
structure Bw where
  v : Value
  l : List Int

def bwc (a : Bw) : List Value := [a.v]
theorem bwc_len (a : Bw) : (bwc a).length = 1 := rfl

/-- A slice value that reads as the lists r. -/
def IsBB (w : World) (v : Value) (r : List Bw) : Prop := RowG bwc w v r ∧ ∀ a ∈ r, Is .u8 w a.v a.l

theorem IsBB.below {w w' : World} {v : Value} {r : List Bw} (h : IsBB w v r) (hb : Below w.heap.size w w') : IsBB w' v r := ⟨h.1.below hb, fun a ha => (h.2 a ha).below hb⟩

theorem IsBB.nil (w : World) : IsBB w (.slice none 0 0) [] := ⟨RowG.nil _ _, fun a ha => by simp at ha⟩

theorem IsBB.full {w : World} {v : Value} {r : List Bw} (h : IsBB w v r) (hne : 0 < r.length) :
    ∃ b off cap, v = .slice (some ⟨b, off, none⟩) r.length cap ∧ r.length ≤ cap ∧ cap ≤ maxLen ∧ b < w.heap.size ∧ ∀ i a, r[i]? = some a → w.cell? ⟨b, off + i, none⟩ = some a.v := by
  obtain ⟨b, off, cap, h1, h2, h3, h4, h5⟩ := h.1.full bwc_len (by decide) hne
  refine ⟨b, off, cap, h1, h2, h3, h4, fun i a ha => ?_⟩
  have := h5 i a ha 0 a.v rfl
  simpa using this

theorem bwc_one (l : List Bw) (h : ∀ a ∈ l, ∃ ao n c, a.v = .slice ao n c) : ∀ u ∈ gcells bwc l, u.oneCell' = true := by
  induction l with
  | nil => simp [gcells]
  | cons x l ih =>
    intro u hu
    rw [gcells, List.mem_append] at hu
    rcases hu with hu | hu
    · obtain ⟨a, n, c, hv⟩ := h x (by simp)
      simp [bwc] at hu
      rw [hu, hv]
      rfl
    · exact ih (fun y hy => h y (by simp [hy])) u hu

/-- Lists of the call's own, each in a block of its own, in a row of the call's own. -/
structure OwnB (base : Nat) (w : World) (v : Value) (r : List Bw) : Prop where
  row : OwnG bwc 1 112 base w v r
  own : ∀ a ∈ r, Own .u8 5 base w a.v a.l
  apart : r.Pairwise (fun a b => ∀ g, a.v.ownBlock = some g → b.v.ownBlock ≠ some g)

theorem OwnB.nil (base : Nat) (w : World) : OwnB base w (.slice none 0 0) [] := ⟨OwnG.nil _ _ _ _ _, fun a ha => by simp at ha, List.Pairwise.nil⟩

theorem OwnB.is {base : Nat} {w : World} {v : Value} {r : List Bw} (h : OwnB base w v r) : IsBB w v r := ⟨h.row.row, fun a ha => (h.own a ha).is⟩

theorem OwnB.below {base : Nat} {w w' : World} {v : Value} {r : List Bw} (h : OwnB base w v r) (hb : Below w.heap.size w w') : OwnB base w' v r :=
  ⟨h.row.agree fun b hb' => hb.block b (h.row.lt b hb').2, fun a ha => (h.own a ha).below hb, h.apart⟩

theorem bw_ne {w : World} {u v : Value} {b1 b2 : Nat} {r : List Bw} {zs : List Int} (h : Own .u8 5 b1 w u zs) (hr : OwnG bwc 1 112 b2 w v r) : u.ownBlock = none ∨ u.ownBlock ≠ v.ownBlock := by
  cases hu : u.ownBlock with
  | none => exact .inl rfl
  | some b =>
    refine .inr fun e' => ?_
    obtain ⟨c1, h1⟩ := h.type hu
    obtain ⟨c2, h2⟩ := hr.type e'.symm
    rw [h1] at h2
    simp at h2

/-- One list more, made since. -/
theorem OwnB.app {base : Nat} {w0 w w' : World} {v v' : Value} {r : List Bw} {a : Bw} (h : OwnB base w0 v r) (hb : Below w0.heap.size w0 w) (hbase : base ≤ w0.heap.size)
    (o1 : Own .u8 5 w0.heap.size w a.v a.l) (hr : OwnG bwc 1 112 base w' v' (r ++ [a])) (hg : w.grownBy w' v.ownBlock) : OwnB base w' v' (r ++ [a]) := by
  have k := h.below hb
  refine ⟨hr, fun c hc => ?_, List.pairwise_append.2 ⟨h.apart, List.pairwise_singleton _ _, fun c hc d hd => ?_⟩⟩
  · rcases List.mem_append.1 hc with hc | hc
    · exact (k.own c hc).kept hg (bw_ne (k.own c hc) k.row)
    · simp at hc
      subst hc
      exact (o1.rebase hbase).kept hg (bw_ne o1 k.row)
  · simp at hd
    subst hd
    intro g hg' e
    have h1 := ((h.own c hc).block g hg').2
    have h2 := (o1.block g e).1
    omega

end Go.Proofs.YthmecljkackmbaaGreat
