/- Texts of one layer, one behind the other. -/
import Derived.Test.YtkpnkknolobioaaG20
import Derived.Test.YtkpnkknolobioaaG12
import Derived.Test.YtkpnkknolobioaaG4
import Derived.Test.YtkpnkknolobioaaG13
/- The program's disk in memory, and the contracts of its small methods. -/
namespace Go.Proofs.Ytkpnkknolobioaa
open Go.RowKit
set_option linter.unusedVariables false

/-- A raw step's kind. -/
def kof (r : Rv) : Int := if r.cut then 1 else 0

/-- A raw step's cells. -/
def stepc (r : Rv) : List Value := [.int .i64 (kof r), .int .i64 r.file, r.v, .int .i64 r.to]
theorem stepc_len (r : Rv) : (stepc r).length = 4 := rfl

/-- The fuse as it is told: -1 where there is none. -/
def pfuse (st : Dm.Ds) : Int := if st.has then st.left else -1

/-- A disk's nine cells. -/
def pcells (s : Nat → Value) (wv : Value) (on : Bool) (fuse count : Int) : Array Value := #[.bool true, .bool on, .int .i64 fuse, s 0, s 1, s 2, s 3, wv, .int .i64 count]

/-- The blocks of a disk. -/
def FB (p : Nat) (s : Nat → Value) (wv : Value) (rs : List Rv) (g : Nat) : Prop :=
  g = p ∨ (∃ f, f < 4 ∧ (s f).ownBlock = some g) ∨ wv.ownBlock = some g ∨ ∃ r ∈ rs, r.v.ownBlock = some g

/-- What a disk holds: its files' slices, each alone in its block; the row of raw steps; their bytes. -/
structure Con (w : World) (sure : Nat → List Int) (wait : List Dm.Rw) (s : Nat → Value) (wv : Value) (rs : List Rv) : Prop where
  file : ∀ f, f < 4 → Own .u8 5 0 w (s f) (sure f)
  apart : ∀ f g, f < 4 → g < 4 → f ≠ g → ∀ b, (s f).ownBlock = some b → (s g).ownBlock ≠ some b
  row : OwnG stepc 4 116 0 w wv rs
  raw : ∀ r ∈ rs, Byt (fun _ => True) w r.v r.bytes
  rawa : ∀ r ∈ rs, ∀ f, f < 4 → ∀ b, r.v.ownBlock = some b → (s f).ownBlock ≠ some b
  wait : rs.map Rv.r = wait

structure PkV (p : Nat) (w : World) (st : Dm.Ds) (s : Nat → Value) (wv : Value) (rs : List Rv) : Prop where
  blk : w.heap[p]? = some (.cells (pcells s wv st.on (pfuse st) st.count) 89 (0, 0))
  con : Con w st.sure st.wait s wv rs
  ok : Dm.Ok st

def Pk (p : Nat) (F : Nat → Prop) (w : World) (st : Dm.Ds) : Prop := ∃ s wv rs, PkV p w st s wv rs ∧ F = FB p s wv rs

section
variable {p : Nat} {F G : Nat → Prop} {w w' w1 w2 : World} {st st' : Dm.Ds} {sure sure' : Nat → List Int} {wait wait' : List Dm.Rw} {s s' : Nat → Value} {wv wv' : Value} {rs rs' : List Rv}

theorem Con.agree (h : Con w sure wait s wv rs) (ha : ∀ g, FB p s wv rs g → w'.heap[g]? = w.heap[g]?) : Con w' sure wait s wv rs :=
  ⟨fun f hf => (h.file f hf).agree fun b hb => ha b (.inr (.inl ⟨f, hf, hb⟩)), h.apart, h.row.agree fun b hb => ha b (.inr (.inr (.inl hb))), fun r hr => (h.raw r hr).agree fun b hb => ha b (.inr (.inr (.inr ⟨r, hr, hb⟩))), h.rawa, h.wait⟩

theorem Con.cel (h : Con w sure wait s wv rs) {cs : Array Value} {t : TypeId} {fr : Nat × Nat} (hp : w.heap[p]? = some (.cells cs t fr)) : ∀ g, FB p s wv rs g → ∃ cs t fr, w.heap[g]? = some (.cells cs t fr) := by
  rintro g (rfl | ⟨f, hf, hb⟩ | hb | ⟨r, hr, hb⟩)
  · exact ⟨_, _, _, hp⟩
  · obtain ⟨cs, hc⟩ := (h.file f hf).type hb
    exact ⟨_, _, _, hc⟩
  · obtain ⟨cs, hc⟩ := h.row.type hb
    exact ⟨_, _, _, hc⟩
  · obtain ⟨_, cs, fr, hc⟩ := (h.raw r hr).2 g hb
    exact ⟨_, _, _, hc⟩

/-- The blocks of what a disk holds are none of another type. -/
theorem Con.ne (h : Con w sure wait s wv rs) {q : Nat} {cs : Array Value} {t : TypeId} {fr : Nat × Nat} (hq : w.heap[q]? = some (.cells cs t fr)) (h1 : t ≠ 5) (h2 : t ≠ 116) :
    (∀ f, f < 4 → ∀ b, (s f).ownBlock = some b → b ≠ q) ∧ (∀ b, wv.ownBlock = some b → b ≠ q) ∧ ∀ r ∈ rs, ∀ b, r.v.ownBlock = some b → b ≠ q := by
  refine ⟨fun f hf b hb e => ?_, fun b hb e => ?_, fun r hr b hb e => ?_⟩
  · obtain ⟨cs, hc⟩ := (h.file f hf).type hb
    rw [e, hq] at hc
    simp at hc
    exact h1 hc.2.1
  · obtain ⟨cs, hc⟩ := h.row.type hb
    rw [e, hq] at hc
    simp at hc
    exact h2 hc.2.1
  · obtain ⟨_, cs, fr, hc⟩ := (h.raw r hr).2 b hb
    rw [e, hq] at hc
    simp at hc
    exact h1 hc.2.1

/-- All but the block q stays, and q is none of its blocks. -/
theorem Con.but (h : Con w sure wait s wv rs) {q : Nat} {cs : Array Value} {t : TypeId} {fr : Nat × Nat} (hq : w.heap[q]? = some (.cells cs t fr)) (h1 : t ≠ 5) (h2 : t ≠ 116) (ha : ∀ b, b ≠ q → b < w.heap.size → w'.heap[b]? = w.heap[b]?) : Con w' sure wait s wv rs := by
  obtain ⟨n1, n2, n3⟩ := h.ne hq h1 h2
  exact ⟨fun f hf => (h.file f hf).agree fun b hb => ha b (n1 f hf b hb) ((h.file f hf).block b hb).2, h.apart, h.row.agree fun b hb => ha b (n2 b hb) (h.row.lt b hb).2, fun r hr => (h.raw r hr).agree fun b hb => ha b (n3 r hr b hb) (by obtain ⟨_, cs, fr, hc⟩ := (h.raw r hr).2 b hb; exact blk_lt hc), h.rawa, h.wait⟩

theorem Con.len (h : Con w sure wait s wv rs) : wait.length = rs.length := by rw [← h.wait, List.length_map]

theorem PkV.cel (h : PkV p w st s wv rs) : ∀ g, FB p s wv rs g → ∃ cs t fr, w.heap[g]? = some (.cells cs t fr) := h.con.cel h.blk
theorem PkV.lt (h : PkV p w st s wv rs) : ∀ g, FB p s wv rs g → g < w.heap.size := fun g hg => by
  obtain ⟨cs, t, fr, hc⟩ := h.cel g hg
  exact blk_lt hc
theorem PkV.agree (h : PkV p w st s wv rs) (ha : ∀ g, FB p s wv rs g → w'.heap[g]? = w.heap[g]?) : PkV p w' st s wv rs := ⟨(ha p (.inl rfl)).trans h.blk, h.con.agree ha, h.ok⟩
theorem PkV.below (h : PkV p w st s wv rs) (hb : Below w.heap.size w w') : PkV p w' st s wv rs := h.agree fun g hg => hb.block g (h.lt g hg)

theorem Pk.cel (h : Pk p F w st) : ∀ g, F g → ∃ cs t fr, w.heap[g]? = some (.cells cs t fr) := by
  obtain ⟨s, wv, rs, h, rfl⟩ := h
  exact h.cel
theorem Pk.lt (h : Pk p F w st) : ∀ g, F g → g < w.heap.size := by
  obtain ⟨s, wv, rs, h, rfl⟩ := h
  exact h.lt
theorem Pk.inp (h : Pk p F w st) : F p := by
  obtain ⟨s, wv, rs, h, rfl⟩ := h
  exact .inl rfl
theorem Pk.agree (h : Pk p F w st) (ha : ∀ g, F g → w'.heap[g]? = w.heap[g]?) : Pk p F w' st := by
  obtain ⟨s, wv, rs, h, rfl⟩ := h
  exact ⟨s, wv, rs, h.agree ha, rfl⟩
theorem Pk.below (h : Pk p F w st) (hb : Below w.heap.size w w') : Pk p F w' st := h.agree fun g hg => hb.block g (h.lt g hg)
theorem Pk.out (h : Pk p F w st) (ho : Out G w w') (hd : ∀ g, F g → ¬ G g) : Pk p F w' st := h.agree fun g hg => ho.block g (h.lt g hg) (hd g hg)
theorem Pk.ok (h : Pk p F w st) : Dm.Ok st := by
  obtain ⟨s, wv, rs, h, rfl⟩ := h
  exact h.ok

/-- What a call does to a disk: its new state; all else is as it was. -/
def PStep (p : Nat) (F : Nat → Prop) (w w' : World) (st' : Dm.Ds) : Prop := ∃ F', Pk p F' w' st' ∧ Out F w w' ∧ ∀ g, F' g → F g ∨ w.heap.size ≤ g

theorem PStep.trans {F1 : Nat → Prop} (ho : Out F w w1) (hs : ∀ g, F1 g → F g ∨ w.heap.size ≤ g) (k : PStep p F1 w1 w2 st') : PStep p F w w2 st' := by
  obtain ⟨F2, h1, h2, h3⟩ := k
  refine ⟨F2, h1, ho.trans h2 hs, fun g hg => ?_⟩
  rcases h3 g hg with h | h
  · exact hs g h
  · exact .inr (Nat.le_trans ho.size h)

theorem PStep.same (h : Pk p F w st) (hb : Below w.heap.size w w') : PStep p F w w' st := ⟨F, h.below hb, Out.of_below hb, fun g hg => .inl hg⟩

/-- Behind a call that made blocks alone. -/
theorem PStep.pre (hb : Below w.heap.size w w1) (h : PStep p F w1 w2 st') : PStep p F w w2 st' := h.trans (Out.of_below hb) fun g hg => .inl hg
theorem PStep.post (h : PStep p F w w1 st') (hb : Below w1.heap.size w1 w2) : PStep p F w w2 st' := by
  obtain ⟨F1, h1, h2, h3⟩ := h
  exact ⟨F1, h1.below hb, h2.trans (Out.of_below (F := F) hb) fun g hg => .inl hg, h3⟩

/-- One cell of the disk's block is written; what it holds is 'Con' already. -/
theorem PkV.put {cs : Array Value} (hblk : w.heap[p]? = some (.cells cs 89 (0, 0))) (j : Nat) (u : Value) (hc : cs.setIfInBounds j u = pcells s' wv' st'.on (pfuse st') st'.count) (hcon : Con w st'.sure st'.wait s' wv' rs') (hok : Dm.Ok st') :
    PkV p (w.setCell ⟨p, j, none⟩ u) st' s' wv' rs' ∧ Out (fun g => g = p) w (w.setCell ⟨p, j, none⟩ u) := by
  refine ⟨⟨by rw [set_cells hblk, hc], hcon.but hblk (by decide) (by decide) fun b hb _ => Below.heap_setCell _ _ _ _ hb, hok⟩, Out.of_grown (grown_setCell w ⟨p, j, none⟩ u) fun g hg => by simp at hg; exact hg.symm⟩

/-- Scalars alone are written. -/
theorem PkV.set (h : PkV p w st s wv rs) (j : Nat) (u : Value) (hc : (pcells s wv st.on (pfuse st) st.count).setIfInBounds j u = pcells s wv st'.on (pfuse st') st'.count) (h1 : st'.sure = st.sure) (h2 : st'.wait = st.wait) :
    PkV p (w.setCell ⟨p, j, none⟩ u) st' s wv rs ∧ Out (FB p s wv rs) w (w.setCell ⟨p, j, none⟩ u) := by
  obtain ⟨r1, r2⟩ := PkV.put (st' := st') (s' := s) (wv' := wv) (rs' := rs) h.blk j u hc (by rw [h1, h2]; exact h.con) (by have := h.ok; unfold Dm.Ok at this ⊢; rw [h1, h2]; exact this)
  exact ⟨r1, r2.mono fun g hg => .inl (.inl hg)⟩

theorem PStep.of_set (h : PkV p w' st' s wv rs) (ho : Out (FB p s wv rs) w w') : PStep p (FB p s wv rs) w w' st' := ⟨_, ⟨s, wv, rs, h, rfl⟩, ho, fun g hg => .inl hg⟩

theorem PkV.cell (h : PkV p w st s wv rs) (j : Nat) {u : Value} (hj : (pcells s wv st.on (pfuse st) st.count)[j]? = some u) : w.cell? ⟨p, j, none⟩ = some u := blk_cell h.blk j hj
theorem PkV.c0 (h : PkV p w st s wv rs) : w.cell? ⟨p, 0, none⟩ = some (.bool true) := h.cell 0 rfl
theorem PkV.c1 (h : PkV p w st s wv rs) : w.cell? ⟨p, 1, none⟩ = some (.bool st.on) := h.cell 1 rfl
theorem PkV.c2 (h : PkV p w st s wv rs) : w.cell? ⟨p, 2, none⟩ = some (.int .i64 (pfuse st)) := h.cell 2 rfl
theorem PkV.c7 (h : PkV p w st s wv rs) : w.cell? ⟨p, 7, none⟩ = some wv := h.cell 7 rfl
theorem PkV.c8 (h : PkV p w st s wv rs) : w.cell? ⟨p, 8, none⟩ = some (.int .i64 st.count) := h.cell 8 rfl
theorem pc_f {cs : Array Value} {on : Bool} {fuse count : Int} (h : w.heap[p]? = some (.cells (pcells s wv on fuse count) 89 (0, 0))) (f : Nat) (hf : f < 4) : w.cell? ⟨p, 3 + f, none⟩ = some (s f) := by
  rcases (show f = 0 ∨ f = 1 ∨ f = 2 ∨ f = 3 by omega) with rfl | rfl | rfl | rfl
  · exact blk_cell h 3 rfl
  · exact blk_cell h 4 rfl
  · exact blk_cell h 5 rfl
  · exact blk_cell h 6 rfl
theorem PkV.cf (h : PkV p w st s wv rs) (f : Nat) (hf : f < 4) : w.cell? ⟨p, 3 + f, none⟩ = some (s f) := pc_f (cs := #[]) h.blk f hf
theorem PkV.froz (h : PkV p w st s wv rs) (j : Nat) : w.frozen? ⟨p, j, none⟩ = false := blk_froz h.blk j

end

/-- A new disk. -/
theorem new_any (w : World) : Calls Try.prog 29 #[] w fun E w' => E = .returned (.pointer (some ⟨w.heap.size, 0, none⟩)) ∧ Pk w.heap.size (fun g => g = w.heap.size) w' Dm.new ∧ Below w.heap.size w w' := by
  obtain ⟨w1, hw1, sz1, bel1, hB⟩ := blk_step w #[.bool true, .bool true, .int .i64 (-1), .slice none 0 0, .slice none 0 0, .slice none 0 0, .slice none 0 0, .slice none 0 0, .int .i64 0] 89
  have D : Hid (Pk w.heap.size (fun g => g = w.heap.size) w1 Dm.new) := ⟨fun _ => .slice none 0 0, .slice none 0 0, [], ⟨hB, ⟨fun f _ => Own.nil _ _ _ _, fun f g _ _ _ b hb => by simp [Value.ownBlock] at hb, OwnG.nil _ _ _ _ _, fun r hr => by simp at hr, fun r hr => by simp at hr, rfl⟩, trivial⟩, by funext g; simp [FB, Value.ownBlock]⟩
  clear hB
  go_enter Try.func29, Try.ntmps29
  go_wp2
  go_ret
  exact ⟨rfl, D.out, bel1⟩

set_option maxHeartbeats 400000 in
theorem made_any (p : Nat) (F : Nat → Prop) (w : World) (st : Dm.Ds) (h : Pk p F w st) : Calls Try.prog 62 #[.pointer (some ⟨p, 0, none⟩)] w fun E w' => E = .returned (.bool true) ∧ w = w' := by
  obtain ⟨s, wv, rs, h, rfl⟩ := h
  have c0 := h.c0
  clear h
  go_enter Try.func62, Try.ntmps62
  go_wp2
  go_ret
  exact ⟨rfl, rfl⟩

set_option maxHeartbeats 400000 in
theorem refuses_any (p : Nat) (F : Nat → Prop) (w : World) (st : Dm.Ds) (h : Pk p F w st) : Calls Try.prog 88 #[.pointer (some ⟨p, 0, none⟩)] w fun E w' => E = .returned (.int .i64 (ask st)) ∧ w = w' := by
  have hn := made_any p F w st h
  obtain ⟨s, wv, rs, h, rfl⟩ := h
  have c1 := h.c1
  have HN := hide hn
  clear h hn
  cases hon : st.on
  · rw [hon] at c1
    rw [ask_off hon]
    clear hon
    go_enter Try.func88, Try.ntmps88
    go_wp2_with fail
    refine HN.out.mono ?_
    rintro E w1 ⟨rfl, rfl⟩
    go_wp2
    go_ret
    exact ⟨rfl, rfl⟩
  · rw [hon] at c1
    rw [ask_on hon]
    clear hon
    go_enter Try.func88, Try.ntmps88
    go_wp2_with fail
    refine HN.out.mono ?_
    rintro E w1 ⟨rfl, rfl⟩
    go_wp2
    go_ret
    exact ⟨rfl, rfl⟩

theorem isfile_any (f : Int) (w : World) : Calls Try.prog 63 #[.int .i64 f] w fun E w' => E = .returned (.bool (Dm.inF f)) ∧ w = w' := by
  unfold Dm.inF
  by_cases h0 : 0 ≤ f
  · by_cases h4 : f < 4
    · rw [decide_eq_true h0, decide_eq_true h4]
      go_enter Try.func63, Try.ntmps63
      go_wp2
      go_ret
      exact ⟨rfl, rfl⟩
    · rw [decide_eq_true h0, decide_eq_false h4]
      go_enter Try.func63, Try.ntmps63
      go_wp2
      go_ret
      exact ⟨rfl, rfl⟩
  · rw [decide_eq_false h0, Bool.false_and]
    go_enter Try.func63, Try.ntmps63
    go_wp2
    go_ret
    exact ⟨rfl, rfl⟩

set_option maxHeartbeats 400000 in
theorem on_any (p : Nat) (F : Nat → Prop) (w : World) (st : Dm.Ds) (h : Pk p F w st) : Calls Try.prog 57 #[.pointer (some ⟨p, 0, none⟩)] w fun E w' => E = .returned (.bool st.on) ∧ w = w' := by
  have hn := made_any p F w st h
  obtain ⟨s, wv, rs, h, rfl⟩ := h
  have c1 := h.c1
  have HN := hide hn
  clear h hn
  go_enter Try.func57, Try.ntmps57
  go_wp2_with fail
  refine HN.out.mono ?_
  rintro E w1 ⟨rfl, rfl⟩
  go_wp2
  go_ret
  exact ⟨rfl, rfl⟩

set_option maxHeartbeats 400000 in
theorem pend_any (p : Nat) (F : Nat → Prop) (w : World) (st : Dm.Ds) (h : Pk p F w st) : Calls Try.prog 32 #[.pointer (some ⟨p, 0, none⟩)] w fun E w' => E = .returned (.int .i64 st.wait.length) ∧ w = w' := by
  have hn := made_any p F w st h
  obtain ⟨s, wv, rs, h, rfl⟩ := h
  have c7 := h.c7
  obtain ⟨ao, cap, hv, _, _⟩ := h.con.row.row.shape
  rw [hv] at c7
  rw [h.con.len]
  have HN := hide hn
  clear h hn hv
  go_enter Try.func32, Try.ntmps32
  go_wp2_with fail
  refine HN.out.mono ?_
  rintro E w1 ⟨rfl, rfl⟩
  go_wp2
  go_ret
  exact ⟨rfl, rfl⟩

set_option maxHeartbeats 400000 in
theorem pull_any (p : Nat) (F : Nat → Prop) (w : World) (st : Dm.Ds) (h : Pk p F w st) :
    Calls Try.prog 58 #[.pointer (some ⟨p, 0, none⟩)] w fun E w' => E = .returned (.int .i64 (Dm.pull st).1) ∧ PStep p F w w' (Dm.pull st).2 := by
  have ha := refuses_any p F w st h
  have HK := hide h
  obtain ⟨s, wv, rs, h, rfl⟩ := h
  have c1 := h.c1
  have f1 := h.froz 1
  have R := h.set (st' := Dm.dark st) 1 (.bool false) rfl rfl rfl
  have HR : Hid (PStep p (FB p s wv rs) w (w.setCell ⟨p, 1, none⟩ (.bool false)) (Dm.dark st)) := PStep.of_set R.1 R.2
  have HA := hide ha
  clear h R ha
  unfold Dm.pull
  cases hon : st.on
  · rw [if_pos rfl]
    have hk := ask_off hon
    clear hon
    go_enter Try.func58, Try.ntmps58
    go_wp2_with fail
    refine HA.out.mono ?_
    rintro E w1 ⟨rfl, rfl⟩
    rw [hk]
    go_wp2
    go_ret
    exact ⟨rfl, PStep.same HK.out (Below.refl _ _)⟩
  · rw [if_neg (by simp)]
    have hk := ask_on hon
    clear hon
    go_enter Try.func58, Try.ntmps58
    go_wp2_with fail
    refine HA.out.mono ?_
    rintro E w1 ⟨rfl, rfl⟩
    rw [hk]
    go_wp2
    go_ret
    exact ⟨rfl, HR.out⟩

set_option maxHeartbeats 400000 in
theorem fuse_any (p : Nat) (F : Nat → Prop) (w : World) (st : Dm.Ds) (n : Int) (h : Pk p F w st) :
    Calls Try.prog 56 #[.pointer (some ⟨p, 0, none⟩), .int .i64 n] w fun E w' => E = .returned (.int .i64 (Dm.fuse st n).1) ∧ PStep p F w w' (Dm.fuse st n).2 := by
  have ha := refuses_any p F w st h
  have HK := hide h
  obtain ⟨s, wv, rs, h, rfl⟩ := h
  have c2 := h.c2
  have f2 := h.froz 2
  have HA := hide ha
  clear ha
  unfold Dm.fuse
  cases hon : st.on
  · rw [if_pos rfl]
    have hk := ask_off hon
    clear hon h
    go_enter Try.func56, Try.ntmps56
    go_wp2_with fail
    refine HA.out.mono ?_
    rintro E w1 ⟨rfl, rfl⟩
    rw [hk]
    go_wp2
    go_ret
    exact ⟨rfl, PStep.same HK.out (Below.refl _ _)⟩
  · rw [if_neg (by simp)]
    have hk := ask_on hon
    by_cases hn : n < 0
    · rw [if_pos hn]
      clear hon h
      go_enter Try.func56, Try.ntmps56
      go_wp2_with fail
      refine HA.out.mono ?_
      rintro E w1 ⟨rfl, rfl⟩
      rw [hk]
      go_wp2
      go_ret
      exact ⟨rfl, PStep.same HK.out (Below.refl _ _)⟩
    · rw [if_neg hn]
      have hcast : ((n.toNat : Nat) : Int) = n := by omega
      have R := h.set (st' := { st with has := true, left := n.toNat }) 2 (.int .i64 n) (by simp [pcells, pfuse, hcast]) rfl rfl
      have HR : Hid (PStep p (FB p s wv rs) w (w.setCell ⟨p, 2, none⟩ (.int .i64 n)) { st with has := true, left := n.toNat }) := PStep.of_set R.1 R.2
      have hs : { st with has := true, left := n.toNat } = ({ sure := st.sure, wait := st.wait, on := true, has := true, left := n.toNat, count := st.count } : Dm.Ds) := by rw [← hon]
      rw [hs] at HR
      clear h R hs hcast hon
      go_enter Try.func56, Try.ntmps56
      go_wp2_with fail
      refine HA.out.mono ?_
      rintro E w1 ⟨rfl, rfl⟩
      rw [hk]
      go_wp2
      go_ret
      exact ⟨rfl, HR.out⟩

end Go.Proofs.Ytkpnkknolobioaa

/- The contracts of the document's disk: what it tells (On, Pending, Steps, Read, Durable), Fuse. -/
namespace Go.Proofs.Ytkpnkknolobioaa
open Go.RowKit
set_option linter.unusedVariables false

theorem wtake_next {l : List Dm.Rw} {k : Nat} {r : Dm.Rw} (h : l[k]? = some r) : l.take (k + 1) = l.take k ++ [r] := by
  obtain ⟨hk, rfl⟩ := List.getElem?_eq_some_iff.1 h
  exact List.take_succ_eq_append_getElem hk

theorem bulk_take : ∀ (l : List Dm.Rw) (k : Nat), Dm.bulk (l.take k) ≤ Dm.bulk l
  | [], k => by simp [Dm.bulk]
  | r :: l, 0 => by simp [Dm.bulk]
  | r :: l, k + 1 => by
    have := bulk_take l k
    simp only [List.take_succ_cons, Dm.bulk]
    omega

theorem bulk_at {l : List Dm.Rw} {k : Nat} {r : Dm.Rw} (h : l[k]? = some r) : Dm.bulk (l.take k) + r.bytes.length ≤ Dm.bulk l := by
  have h1 := bulk_take l (k + 1)
  rw [wtake_next h, Dm.bulk_app] at h1
  simp only [Dm.bulk] at h1
  omega

theorem hold_next {l : List Dm.Rw} {k : Nat} {r : Dm.Rw} (h : l[k]? = some r) (f : Nat) (b : List Int) : Dm.hold f b (l.take (k + 1)) = if r.file = f then Dm.wth (Dm.hold f b (l.take k)) r else Dm.hold f b (l.take k) := by
  rw [wtake_next h, Dm.hold_snoc]

end Go.Proofs.Ytkpnkknolobioaa

/- The program's disk: what a file holds behind a raw step, copies, Read, Durable. -/
namespace Go.Proofs.Ytkpnkknolobioaa
open Go.RowKit
set_option linter.unusedVariables false

set_option maxHeartbeats 2000000 in
theorem behind_any (base : Nat) (vb : Value) (bs : List Int) (r : Rv) (w : World) (hb : Own .u8 5 base w vb bs) (hbase : base ≤ w.heap.size) (hv : Is .u8 w r.v r.bytes) (hto : r.cut = true → r.to ≤ bs.length) (hl : bs.length + r.bytes.length ≤ 140737488355328) :
    Calls Try.prog 110 #[.agg #[.int .i64 (kof r), .int .i64 r.file, r.v, .int .i64 r.to], vb] w fun E w' => ∃ v, E = .returned v ∧ Own .u8 5 base w' v (Dm.wth bs r.r) ∧ Out (fun g => vb.ownBlock = some g) w w' ∧ ∀ b, v.ownBlock = some b → vb.ownBlock = some b ∨ w.heap.size ≤ b := by
  cases hc : r.cut
  · have hk : kof r = 0 := by simp [kof, hc]
    have e : Dm.wth bs r.r = bs ++ r.bytes := by simp [Dm.wth, Rv.r, hc]
    rw [e, hk]
    obtain ⟨w1, hw1, sz1, bel1, hB⟩ := blk_step w #[.int .i64 0, .int .i64 r.file, r.v, .int .i64 r.to] 116
    have c0 : w1.cell? ⟨w.heap.size, 0, none⟩ = some (.int .i64 0) := blk_cell hB 0 rfl
    have c2 : w1.cell? ⟨w.heap.size, 2, none⟩ = some r.v := blk_cell hB 2 rfl
    have hb1 := hb.below bel1
    have hv1 := hv.below bel1
    have X : Hid (∀ ty, ∃ v' w', (Builtin.append_ #[25, 25] ty #[vb, r.v]).run Try.prog w1 = .ok v' w' ∧ (Own .u8 5 base w' v' (bs ++ r.bytes) ∧ w1.grownBy w' vb.ownBlock ∧ (v'.ownBlock = vb.ownBlock ∨ v'.ownBlock = some w1.heap.size))) := hide fun ty =>
      run_append_is_at 25 ty .u8 5 base 1 Try.underlying25 Try.info5 (by decide) vb bs hb1 r.v r.bytes hv1 (by omega) (by omega)
    clear hB hb1 hv1 hto hc e hk
    go_enter Try.func110, Try.ntmps110
    go_wp2_with (at_builtin; refine wpList_append_at rfl (.tmp 9) (.tmp 11) 25 rfl vb r.v rfl rfl X.out ?_)
    intro v2 w2 own2 gr2 at2
    have ho : Out (fun g => vb.ownBlock = some g) w w2 := (Out.of_below bel1).trans (G := fun g => vb.ownBlock = some g) (Out.of_grown gr2 fun g hg => hg) fun g hg => .inl hg
    have hat : ∀ b, v2.ownBlock = some b → vb.ownBlock = some b ∨ w.heap.size ≤ b := by
      intro b hb'
      rcases at2 with h | h
      · exact .inl (by rw [← h]; exact hb')
      · rw [hb'] at h
        simp at h
        exact .inr (by omega)
    have HO := hide ho
    have HAT := hide hat
    clear ho hat at2 gr2
    go_wp2
    go_ret
    exact ⟨_, rfl, own2, HO.out, HAT.out⟩
  · have hk : kof r = 1 := by simp [kof, hc]
    have e : Dm.wth bs r.r = bs.take r.to := by simp [Dm.wth, Rv.r, hc]
    rw [e, hk]
    have hto' := hto hc
    obtain ⟨w1, hw1, sz1, bel1, hB⟩ := blk_step w #[.int .i64 1, .int .i64 r.file, r.v, .int .i64 r.to] 116
    have c0 : w1.cell? ⟨w.heap.size, 0, none⟩ = some (.int .i64 1) := blk_cell hB 0 rfl
    have c3 : w1.cell? ⟨w.heap.size, 3, none⟩ = some (.int .i64 r.to) := blk_cell hB 3 rfl
    obtain ⟨vs, hsl, own, hat⟩ := (hb.below bel1).slice_h Try.elemP Try.sizeP r.to hto'
    have HO : Hid (Out (fun g => vb.ownBlock = some g) w w1) := hide (Out.of_below bel1)
    have HAT : Hid (∀ b, vs.ownBlock = some b → vb.ownBlock = some b ∨ w.heap.size ≤ b) := hide fun b hb' => .inl (hat b hb')
    clear hB hat hto hc e hk
    go_enter Try.func110, Try.ntmps110
    go_wp2
    go_ret
    exact ⟨_, rfl, own, HO.out, HAT.out⟩

set_option maxHeartbeats 2000000 in
theorem held_any (p : Nat) (F : Nat → Prop) (w : World) (st : Dm.Ds) (f : Nat) (h : Pk p F w st) (hf : f < 4) (hsz : (st.sure f).length + Dm.bulk st.wait ≤ 140737488355000) (hw : st.wait.length ≤ 1000000) :
    Calls Try.prog 93 #[.pointer (some ⟨p, 0, none⟩), .int .i64 f] w fun E w' => ∃ v, E = .returned v ∧ Own .u8 5 w.heap.size w' v (Dm.hold f (st.sure f) st.wait) ∧ Below w.heap.size w w' := by
  obtain ⟨s, wv, rs, h, rfl⟩ := h
  have cf := h.cf f hf
  have c7 := h.c7
  have hp := h.lt p (.inl rfl)
  have isf := (h.con.file f hf).is
  have hlr := h.con.len
  obtain ⟨ao, cap, hv, hcap, hcm⟩ := h.con.row.row.shape
  have hrow : 0 < rs.length → ∃ b off c, wv = .slice (some ⟨b, off, none⟩) rs.length c ∧ b < w.heap.size ∧ ∀ i a, rs[i]? = some a → ∀ j u, (stepc a)[j]? = some u → w.cell? ⟨b, off + i * 4 + j, none⟩ = some u := by
    intro h0
    obtain ⟨b, off, c, h1, _, _, h4, h5⟩ := h.con.row.row.full stepc_len (by decide) h0
    exact ⟨b, off, c, h1, h4, h5⟩
  have H := hide h
  have HROW := hide hrow
  subst hv
  clear h hrow
  have hf0 : (0 : Int) ≤ (f : Int) := by omega
  have hf4 : (f : Int) < 4 := by omega
  go_enter Try.func93, Try.ntmps93
  go_wp2_with fail
  refine (bclone_any _ _ _ isf (by omega)).mono ?_
  rintro E w1 ⟨v1, rfl, own1, bel1⟩
  have d7 := (bel1.cell (p := ⟨p, 7, none⟩) hp).trans c7
  clear cf isf
  go_wp2
  go_loopw [5, 20] (fun bv iv wr => ∃ k : Nat, k ≤ rs.length ∧ iv = .int .i64 k ∧ Hid (Own .u8 5 w.heap.size wr bv (Dm.hold f (st.sure f) (st.wait.take k))) ∧ Below w.heap.size w wr) (fun _ iv _ => rs.length - (intOf iv).toNat)
  case atStart => exact ⟨0, by omega, rfl, hide (by simpa [Dm.hold] using own1), bel1⟩
  case round =>
    obtain ⟨k, hk, rfl, HT, bel⟩ := hrel
    have sz := bel.size
    by_cases hlt : k < rs.length
    · obtain ⟨b, off, cq, hvx, hB, hcell⟩ := HROW.out (by omega)
      simp only [Value.slice.injEq, true_and] at hvx
      obtain ⟨rfl, rfl⟩ := hvx
      obtain ⟨r, hr⟩ : ∃ r, rs[k]? = some r := ⟨rs[k], by rw [List.getElem?_eq_getElem]⟩
      have e0 : wr.cell? ⟨b, off + k * 4, none⟩ = some (.int .i64 (kof r)) := (bel.cell (p := ⟨b, off + k * 4, none⟩) hB).trans (hcell k r hr 0 _ rfl)
      have e1 : wr.cell? ⟨b, off + k * 4 + 1, none⟩ = some (.int .i64 r.file) := (bel.cell (p := ⟨b, off + k * 4 + 1, none⟩) hB).trans (hcell k r hr 1 _ rfl)
      have e2 : wr.cell? ⟨b, off + k * 4 + 2, none⟩ = some r.v := (bel.cell (p := ⟨b, off + k * 4 + 2, none⟩) hB).trans (hcell k r hr 2 _ rfl)
      have e3 : wr.cell? ⟨b, off + k * 4 + 3, none⟩ = some (.int .i64 r.to) := (bel.cell (p := ⟨b, off + k * 4 + 3, none⟩) hB).trans (hcell k r hr 3 _ rfl)
      obtain ⟨V, hV, hV2, szV, belV, bV, x0, x1, x2, x3⟩ := new_four wr 116 (.int .i64 0) (.int .i64 0) (.slice none 0 0) (.int .i64 0) (.int .i64 (kof r)) (.int .i64 r.file) r.v (.int .i64 r.to)
      have hst : st.wait[k]? = some r.r := by rw [← H.out.con.wait, List.getElem?_map, hr]; rfl
      have hbl := bulk_at hst
      have hhl := Dm.hold_len (st.wait.take k) (st.sure f) f
      have hfit := Dm.valid_at H.out.ok hst
      obtain ⟨ar, cr, hrv, _, _⟩ := (H.out.con.raw r (List.mem_of_getElem? hr)).1.shape
      have ir := (((H.out.con.raw r (List.mem_of_getElem? hr)).1).below bel).below belV
      have HN := hide (hold_next hst f (st.sure f))
      have hlt' : (k : Int) < rs.length := by omega
      have hk0 : (0 : Int) ≤ (k : Int) := by omega
      have belRV := bel.trans (belV.mono (by omega))
      have HTV := hide (HT.out.below belV)
      by_cases hff : r.file = f
      · have hfe : ((r.file : Int) == (f : Int)) = true := by simp [hff]
        have hto : r.cut = true → r.to ≤ (Dm.hold f (st.sure f) (st.wait.take k)).length := by
          intro hc
          have := hfit.2.1 hc
          rw [show r.r.file = f from hff, ← Dm.hold_dof] at this
          exact this
        have HTO := hide hto
        have hlen : (Dm.hold f (st.sure f) (st.wait.take k)).length + r.bytes.length ≤ 140737488355328 := by
          have : r.r.bytes = r.bytes := rfl
          rw [this] at hbl
          omega
        have hff' : r.r.file = f := hff
        have HFF := hide hff'
        have BI := hide (fun (v0 : Value) (h0 : Own .u8 5 w.heap.size V v0 (Dm.hold f (st.sure f) (st.wait.take k))) => behind_any w.heap.size v0 _ r V h0 (by omega) ir HTO.out hlen)
        have HB2 := hide bV
        have HRV := hide hrv
        rw [hrv] at e2 hV hV2 x2
        rw [hrv] at BI
        clear hst hbl hhl hfit hto hff hff' hcell hr HTO hlen ir hrv bV
        go_wp2_with fail
        refine (BI.out _ HTV.out).mono ?_
        rintro E w2 ⟨v2, rfl, own2, out2, at2⟩
        have bel2 : Below w.heap.size V w2 := out2.below (fun g hg => (HTV.out.block g hg).1) (by omega)
        have HT2 : Hid (Own .u8 5 w.heap.size w2 v2 (Dm.hold f (st.sure f) (st.wait.take (k + 1)))) := hide (by
          rw [HN.out, if_pos HFF.out]
          exact own2)
        have belR := belRV.trans bel2
        clear own2 bel2 out2 at2
        go_wp2
        go_roundw
        case rel => exact ⟨k + 1, by omega, by go_num, HT2, belR⟩
        case measure => simp [intOf]; omega
      · have hfe : ((r.file : Int) == (f : Int)) = false := by simp; omega
        have HT2 := hide (show Own .u8 5 w.heap.size V _ (Dm.hold f (st.sure f) (st.wait.take (k + 1))) by rw [HN.out, if_neg (show ¬ r.r.file = f from hff)]; exact HTV.out)
        rw [hrv] at e2 hV hV2 x2
        clear hst hbl hhl hfit hcell hr hff ir hrv bV
        go_wp2
        go_roundw
        case rel => exact ⟨k + 1, by omega, by go_num, HT2, belRV⟩
        case measure => simp [intOf]; omega
    · have hlt' : ¬ (k : Int) < rs.length := by omega
      have HT2 := HT.out
      rw [List.take_of_length_le (by omega)] at HT2
      clear HT
      go_wp2
      go_ret
      exact ⟨_, rfl, HT2, bel⟩

end Go.Proofs.Ytkpnkknolobioaa

/- Rows in memory: a clearing of cells, the rear of a row. No program. -/
namespace Go.Proofs.Ytkpnkknolobioaa
open Go.RowKit
set_option linter.unusedVariables false

theorem setCells_grown (g : Nat) : ∀ (vs : List Value) (o : Nat) (w : World), w.grownBy (w.setCells g o vs) (some g)
  | [], _, w => World.grownBy.refl _ _
  | v :: r, o, w => grown_trans (grown_setCell w ⟨g, o, none⟩ v) (setCells_grown g r (o + 1) _)

theorem setCells_cells {g : Nat} {t : TypeId} {fr : Nat × Nat} : ∀ (vs : List Value) (o : Nat) (w : World) (cur : Array Value), w.heap[g]? = some (.cells cur t fr) → ∃ cur', (w.setCells g o vs).heap[g]? = some (.cells cur' t fr) ∧ cur'.size = cur.size ∧ ∀ j, j < o → cur'[j]? = cur[j]?
  | [], _, w, cur, h => ⟨cur, h, rfl, fun _ _ => rfl⟩
  | v :: r, o, w, cur, h => by
    obtain ⟨cur', h1, h2, h3⟩ := setCells_cells r (o + 1) (w.setCell ⟨g, o, none⟩ v) _ (set_cells h o v)
    refine ⟨cur', h1, by rw [h2]; simp, fun j hj => ?_⟩
    rw [h3 j (by omega), Array.getElem?_setIfInBounds, if_neg (by omega)]

/-- What a row holds stays where cells behind it are written. -/
theorem own_setCells {w : World} {base e size g n cap : Nat} {xs : List Value} (h : w.ownsRow base e size (.slice (some ⟨g, 0, none⟩) n cap) n xs) (o : Nat) (ho : n * size ≤ o) (vs : List Value) : (w.setCells g o vs).ownsRow base e size (.slice (some ⟨g, 0, none⟩) n cap) n xs := by
  refine ⟨h.1, ?_⟩
  rcases h.2 with ⟨h', _⟩ | ⟨g', cap', cur, h', hb, hg, hnc, hcm, hcs, htake⟩
  · simp at h'
  · simp only [Value.slice.injEq, Option.some.injEq, Addr.mk.injEq, and_true, true_and] at h'
    obtain ⟨rfl, rfl⟩ := h'
    obtain ⟨cur', h1, h2, h3⟩ := setCells_cells vs o w cur hg
    refine .inr ⟨g, cap, cur', rfl, hb, h1, hnc, hcm, by rw [h2, hcs], ?_⟩
    rw [← htake]
    apply List.ext_getElem?
    intro i
    rw [List.getElem?_take, List.getElem?_take]
    split
    · rw [Array.getElem?_toList, Array.getElem?_toList, h3 i (by omega)]
    · rfl

theorem run_clear_rows {P : Program} {n : Nat} (w : World) (t e ty : TypeId) (z : Value) (ht : P.underlying t = some (.slice e)) (hv : ∀ w, (zeroValue e).run P w = .ok z w) (h1 : ∀ u ∈ (Builtin.zeroCells z.cells n).toList, u.oneCell' = true) (b o c : Nat) (hn : 0 < n)
    (hc : ∀ j, j < (Builtin.zeroCells z.cells n).toList.length → (w.cell? ⟨b, o + j, none⟩).isSome = true) (hf : ∀ j, j < (Builtin.zeroCells z.cells n).toList.length → w.frozen? ⟨b, o + j, none⟩ = false) :
    (Builtin.clear_ #[t] ty #[.slice (some ⟨b, o, none⟩) n c]).run P w = .ok (.tuple #[]) (w.setCells b o (Builtin.zeroCells z.cells n).toList) := by
  have hst := run_storeCells_cells (P := P) b o (Builtin.zeroCells z.cells n).toList 0 w (by simpa using hc) (by simpa using hf) h1
  simp only [Nat.add_zero] at hst
  obtain ⟨m, rfl⟩ : ∃ m, n = m + 1 := ⟨n - 1, by omega⟩
  simp [Builtin.clear_, run_underlying ht, hv, hst]

theorem zeroCells_len (z : Array Value) (n : Nat) : (Builtin.zeroCells z n).toList.length = n * z.size := by
  rw [Array.length_toList, size_zeroCells]

theorem zeroCells_one {z : Array Value} (n : Nat) (hz : ∀ u ∈ z, u.oneCell' = true) : ∀ u ∈ (Builtin.zeroCells z n).toList, u.oneCell' = true := by
  intro u hu
  unfold Builtin.zeroCells at hu
  rw [Array.toList_map, Array.toList_range, List.mem_map] at hu
  obtain ⟨i, hi, rfl⟩ := hu
  rw [List.mem_range] at hi
  have h0 : 0 < z.size := Nat.pos_of_ne_zero fun h => by rw [h] at hi; simp at hi
  have hlt : i % z.size < z.size := Nat.mod_lt _ h0
  rw [getElem!_pos z _ hlt]
  exact hz _ (Array.getElem_mem hlt)

section
variable {α : Type} {P : Program} {w : World} {v : Value}

/-- 'v[p:]'. -/
theorem RowG.slice_l {f : α → List Value} {k : Nat} (hk : ∀ a, (f a).length = k) {l : List α} (h : RowG f w v l) {t : TypeId} (ht : P.underlying t = some (.slice (P.elem t))) (hs : ∀ wx, (sizeOf (P.elem t)).run P wx = .ok k wx) (p : Nat) (hp : p ≤ l.length) :
    ∃ vs, (∀ wx, (Instr.slice t v (some (.int .i64 p)) none none).run P wx = .ok vs wx) ∧ RowG f w vs (l.drop p) := by
  have hlen : (l.drop p).length = l.length - p := by rw [List.length_drop]
  rcases h with ⟨hv, hz⟩ | ⟨ad, cap, hv, h1, h2, hc⟩
  · subst hz hv
    obtain rfl : p = 0 := by simpa using hp
    refine ⟨.slice none 0 0, fun wx => ?_, RowG.nil _ _⟩
    rw [run_slice_l wx t none 0 0 ht .i64 _ (by omega) (by omega)]
    simp [Result.andThen, sliced, hs]
  · subst hv
    by_cases hcl : cap = p
    · refine ⟨.slice (some ad) (l.length - p) (cap - p), fun wx => ?_, .inr ⟨ad, cap - p, by rw [hlen], by rw [hlen]; omega, by omega, fun j u hj => ?_⟩⟩
      · rw [run_slice_l wx t (some ad) l.length cap ht .i64 _ (by omega) (by omega), hs]
        simp [Result.andThen, sliced, hcl]
      · rw [List.drop_eq_nil_of_le (by omega)] at hj
        simp [gcells] at hj
    · refine ⟨.slice (some (ad.add (p * k))) (l.length - p) (cap - p), fun wx => ?_, .inr ⟨ad.add (p * k), cap - p, by rw [hlen], by rw [hlen]; omega, by omega, fun j u hj => ?_⟩⟩
      · rw [run_slice_l wx t (some ad) l.length cap ht .i64 _ (by omega) (by omega), hs]
        simp [Result.andThen, sliced, hcl]
      · have e : (ad.add (p * k)).add j = ad.add (p * k + j) := by
          unfold Addr.add
          by_cases h0 : p * k = 0 <;> by_cases h3 : j = 0 <;> simp [h0, h3, Nat.add_assoc]
        rw [gcells_drop hk, List.getElem?_drop] at hj
        rw [e]
        exact hc _ u hj

end

end Go.Proofs.Ytkpnkknolobioaa
