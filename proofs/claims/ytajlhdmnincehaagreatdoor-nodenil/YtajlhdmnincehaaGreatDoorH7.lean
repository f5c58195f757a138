/- Texts of one layer, one behind the other. -/
import Derived.Test.YtajlhdmnincehaaGreatDoorH1
/- The program's disk in memory, and the contracts of its small methods. -/
namespace Go.Proofs.YtajlhdmnincehaaGreatDoor
open Go.RowKit
set_option linter.unusedVariables false

/-- A raw step's kind. -/
def kof (r : Rv) : Int := if r.cut then 1 else 0

/-- A raw step's cells. -/
def stepc (r : Rv) : List Value := [.int .i64 (kof r), .int .i64 r.file, r.v, .int .i64 r.to]
theorem stepc_len (r : Rv) : (stepc r).length = 4 := rfl

/-- The fuse as it is told: -1 where there is none. -/
def pfuse (st : Dm.Ds) : Int := if st.has then st.left else -1

/-- A disk's nine cells. -/
def pcells (s : Nat → Value) (wv : Value) (on : Bool) (fuse count : Int) : Array Value := #[.bool true, .bool on, .int .i64 fuse, s 0, s 1, s 2, s 3, wv, .int .i64 count]

/-- The blocks of a disk. -/
def FB (p : Nat) (s : Nat → Value) (wv : Value) (rs : List Rv) (g : Nat) : Prop :=
  g = p ∨ (∃ f, f < 4 ∧ (s f).ownBlock = some g) ∨ wv.ownBlock = some g ∨ ∃ r ∈ rs, r.v.ownBlock = some g

/-- What a disk holds: its files' slices, each alone in its block; the row of raw steps; their bytes. -/
structure Con (w : World) (sure : Nat → List Int) (wait : List Dm.Rw) (s : Nat → Value) (wv : Value) (rs : List Rv) : Prop where
  file : ∀ f, f < 4 → Own .u8 5 0 w (s f) (sure f)
  apart : ∀ f g, f < 4 → g < 4 → f ≠ g → ∀ b, (s f).ownBlock = some b → (s g).ownBlock ≠ some b
  row : OwnG stepc 4 133 0 w wv rs
  raw : ∀ r ∈ rs, Byt (fun _ => True) w r.v r.bytes
  rawa : ∀ r ∈ rs, ∀ f, f < 4 → ∀ b, r.v.ownBlock = some b → (s f).ownBlock ≠ some b
  wait : rs.map Rv.r = wait

structure PkV (p : Nat) (w : World) (st : Dm.Ds) (s : Nat → Value) (wv : Value) (rs : List Rv) : Prop where
  blk : w.heap[p]? = some (.cells (pcells s wv st.on (pfuse st) st.count) 67 (0, 0))
  con : Con w st.sure st.wait s wv rs
  ok : Dm.Ok st

def Pk (p : Nat) (F : Nat → Prop) (w : World) (st : Dm.Ds) : Prop := ∃ s wv rs, PkV p w st s wv rs ∧ F = FB p s wv rs

section
variable {p : Nat} {F G : Nat → Prop} {w w' w1 w2 : World} {st st' : Dm.Ds} {sure sure' : Nat → List Int} {wait wait' : List Dm.Rw} {s s' : Nat → Value} {wv wv' : Value} {rs rs' : List Rv}

theorem Con.agree (h : Con w sure wait s wv rs) (ha : ∀ g, FB p s wv rs g → w'.heap[g]? = w.heap[g]?) : Con w' sure wait s wv rs :=
  ⟨fun f hf => (h.file f hf).agree fun b hb => ha b (.inr (.inl ⟨f, hf, hb⟩)), h.apart, h.row.agree fun b hb => ha b (.inr (.inr (.inl hb))), fun r hr => (h.raw r hr).agree fun b hb => ha b (.inr (.inr (.inr ⟨r, hr, hb⟩))), h.rawa, h.wait⟩

theorem Con.cel (h : Con w sure wait s wv rs) {cs : Array Value} {t : TypeId} {fr : Nat × Nat} (hp : w.heap[p]? = some (.cells cs t fr)) : ∀ g, FB p s wv rs g → ∃ cs t fr, w.heap[g]? = some (.cells cs t fr) := by
  rintro g (rfl | ⟨f, hf, hb⟩ | hb | ⟨r, hr, hb⟩)
  · exact ⟨_, _, _, hp⟩
  · obtain ⟨cs, hc⟩ := (h.file f hf).type hb
    exact ⟨_, _, _, hc⟩
  · obtain ⟨cs, hc⟩ := h.row.type hb
    exact ⟨_, _, _, hc⟩
  · obtain ⟨_, cs, fr, hc⟩ := (h.raw r hr).2 g hb
    exact ⟨_, _, _, hc⟩

/-- The blocks of what a disk holds are none of another type. -/
theorem Con.ne (h : Con w sure wait s wv rs) {q : Nat} {cs : Array Value} {t : TypeId} {fr : Nat × Nat} (hq : w.heap[q]? = some (.cells cs t fr)) (h1 : t ≠ 5) (h2 : t ≠ 133) :
    (∀ f, f < 4 → ∀ b, (s f).ownBlock = some b → b ≠ q) ∧ (∀ b, wv.ownBlock = some b → b ≠ q) ∧ ∀ r ∈ rs, ∀ b, r.v.ownBlock = some b → b ≠ q := by
  refine ⟨fun f hf b hb e => ?_, fun b hb e => ?_, fun r hr b hb e => ?_⟩
  · obtain ⟨cs, hc⟩ := (h.file f hf).type hb
    rw [e, hq] at hc
    simp at hc
    exact h1 hc.2.1
  · obtain ⟨cs, hc⟩ := h.row.type hb
    rw [e, hq] at hc
    simp at hc
    exact h2 hc.2.1
  · obtain ⟨_, cs, fr, hc⟩ := (h.raw r hr).2 b hb
    rw [e, hq] at hc
    simp at hc
    exact h1 hc.2.1

/-- All but the block q stays, and q is none of its blocks. -/
theorem Con.but (h : Con w sure wait s wv rs) {q : Nat} {cs : Array Value} {t : TypeId} {fr : Nat × Nat} (hq : w.heap[q]? = some (.cells cs t fr)) (h1 : t ≠ 5) (h2 : t ≠ 133) (ha : ∀ b, b ≠ q → b < w.heap.size → w'.heap[b]? = w.heap[b]?) : Con w' sure wait s wv rs := by
  obtain ⟨n1, n2, n3⟩ := h.ne hq h1 h2
  exact ⟨fun f hf => (h.file f hf).agree fun b hb => ha b (n1 f hf b hb) ((h.file f hf).block b hb).2, h.apart, h.row.agree fun b hb => ha b (n2 b hb) (h.row.lt b hb).2, fun r hr => (h.raw r hr).agree fun b hb => ha b (n3 r hr b hb) (by obtain ⟨_, cs, fr, hc⟩ := (h.raw r hr).2 b hb; exact blk_lt hc), h.rawa, h.wait⟩

theorem Con.len (h : Con w sure wait s wv rs) : wait.length = rs.length := by rw [← h.wait, List.length_map]

theorem PkV.cel (h : PkV p w st s wv rs) : ∀ g, FB p s wv rs g → ∃ cs t fr, w.heap[g]? = some (.cells cs t fr) := h.con.cel h.blk
theorem PkV.lt (h : PkV p w st s wv rs) : ∀ g, FB p s wv rs g → g < w.heap.size := fun g hg => by
  obtain ⟨cs, t, fr, hc⟩ := h.cel g hg
  exact blk_lt hc
theorem PkV.agree (h : PkV p w st s wv rs) (ha : ∀ g, FB p s wv rs g → w'.heap[g]? = w.heap[g]?) : PkV p w' st s wv rs := ⟨(ha p (.inl rfl)).trans h.blk, h.con.agree ha, h.ok⟩
theorem PkV.below (h : PkV p w st s wv rs) (hb : Below w.heap.size w w') : PkV p w' st s wv rs := h.agree fun g hg => hb.block g (h.lt g hg)

theorem Pk.cel (h : Pk p F w st) : ∀ g, F g → ∃ cs t fr, w.heap[g]? = some (.cells cs t fr) := by
  obtain ⟨s, wv, rs, h, rfl⟩ := h
  exact h.cel
theorem Pk.lt (h : Pk p F w st) : ∀ g, F g → g < w.heap.size := by
  obtain ⟨s, wv, rs, h, rfl⟩ := h
  exact h.lt
theorem Pk.agree (h : Pk p F w st) (ha : ∀ g, F g → w'.heap[g]? = w.heap[g]?) : Pk p F w' st := by
  obtain ⟨s, wv, rs, h, rfl⟩ := h
  exact ⟨s, wv, rs, h.agree ha, rfl⟩
theorem Pk.below (h : Pk p F w st) (hb : Below w.heap.size w w') : Pk p F w' st := h.agree fun g hg => hb.block g (h.lt g hg)
theorem Pk.out (h : Pk p F w st) (ho : Out G w w') (hd : ∀ g, F g → ¬ G g) : Pk p F w' st := h.agree fun g hg => ho.block g (h.lt g hg) (hd g hg)

/-- What a call does to a disk: its new state; all else is as it was. -/
def PStep (p : Nat) (F : Nat → Prop) (w w' : World) (st' : Dm.Ds) : Prop := ∃ F', Pk p F' w' st' ∧ Out F w w' ∧ ∀ g, F' g → F g ∨ w.heap.size ≤ g

theorem PStep.trans {F1 : Nat → Prop} (ho : Out F w w1) (hs : ∀ g, F1 g → F g ∨ w.heap.size ≤ g) (k : PStep p F1 w1 w2 st') : PStep p F w w2 st' := by
  obtain ⟨F2, h1, h2, h3⟩ := k
  refine ⟨F2, h1, ho.trans h2 hs, fun g hg => ?_⟩
  rcases h3 g hg with h | h
  · exact hs g h
  · exact .inr (Nat.le_trans ho.size h)

theorem PStep.same (h : Pk p F w st) (hb : Below w.heap.size w w') : PStep p F w w' st := ⟨F, h.below hb, Out.of_below hb, fun g hg => .inl hg⟩

/-- Behind a call that made blocks alone. -/
theorem PStep.pre (hb : Below w.heap.size w w1) (h : PStep p F w1 w2 st') : PStep p F w w2 st' := h.trans (Out.of_below hb) fun g hg => .inl hg

/-- One cell of the disk's block is written; what it holds is 'Con' already. -/
theorem PkV.put {cs : Array Value} (hblk : w.heap[p]? = some (.cells cs 67 (0, 0))) (j : Nat) (u : Value) (hc : cs.setIfInBounds j u = pcells s' wv' st'.on (pfuse st') st'.count) (hcon : Con w st'.sure st'.wait s' wv' rs') (hok : Dm.Ok st') :
    PkV p (w.setCell ⟨p, j, none⟩ u) st' s' wv' rs' ∧ Out (fun g => g = p) w (w.setCell ⟨p, j, none⟩ u) := by
  refine ⟨⟨by rw [set_cells hblk, hc], hcon.but hblk (by decide) (by decide) fun b hb _ => Below.heap_setCell _ _ _ _ hb, hok⟩, Out.of_grown (grown_setCell w ⟨p, j, none⟩ u) fun g hg => by simp at hg; exact hg.symm⟩

/-- Scalars alone are written. -/
theorem PkV.set (h : PkV p w st s wv rs) (j : Nat) (u : Value) (hc : (pcells s wv st.on (pfuse st) st.count).setIfInBounds j u = pcells s wv st'.on (pfuse st') st'.count) (h1 : st'.sure = st.sure) (h2 : st'.wait = st.wait) :
    PkV p (w.setCell ⟨p, j, none⟩ u) st' s wv rs ∧ Out (FB p s wv rs) w (w.setCell ⟨p, j, none⟩ u) := by
  obtain ⟨r1, r2⟩ := PkV.put (st' := st') (s' := s) (wv' := wv) (rs' := rs) h.blk j u hc (by rw [h1, h2]; exact h.con) (by have := h.ok; unfold Dm.Ok at this ⊢; rw [h1, h2]; exact this)
  exact ⟨r1, r2.mono fun g hg => .inl (.inl hg)⟩

theorem PStep.of_set (h : PkV p w' st' s wv rs) (ho : Out (FB p s wv rs) w w') : PStep p (FB p s wv rs) w w' st' := ⟨_, ⟨s, wv, rs, h, rfl⟩, ho, fun g hg => .inl hg⟩

theorem PkV.cell (h : PkV p w st s wv rs) (j : Nat) {u : Value} (hj : (pcells s wv st.on (pfuse st) st.count)[j]? = some u) : w.cell? ⟨p, j, none⟩ = some u := blk_cell h.blk j hj
theorem PkV.c0 (h : PkV p w st s wv rs) : w.cell? ⟨p, 0, none⟩ = some (.bool true) := h.cell 0 rfl
theorem PkV.c1 (h : PkV p w st s wv rs) : w.cell? ⟨p, 1, none⟩ = some (.bool st.on) := h.cell 1 rfl
theorem PkV.c2 (h : PkV p w st s wv rs) : w.cell? ⟨p, 2, none⟩ = some (.int .i64 (pfuse st)) := h.cell 2 rfl
theorem PkV.c7 (h : PkV p w st s wv rs) : w.cell? ⟨p, 7, none⟩ = some wv := h.cell 7 rfl
theorem PkV.c8 (h : PkV p w st s wv rs) : w.cell? ⟨p, 8, none⟩ = some (.int .i64 st.count) := h.cell 8 rfl
theorem pc_f {cs : Array Value} {on : Bool} {fuse count : Int} (h : w.heap[p]? = some (.cells (pcells s wv on fuse count) 67 (0, 0))) (f : Nat) (hf : f < 4) : w.cell? ⟨p, 3 + f, none⟩ = some (s f) := by
  rcases (show f = 0 ∨ f = 1 ∨ f = 2 ∨ f = 3 by omega) with rfl | rfl | rfl | rfl
  · exact blk_cell h 3 rfl
  · exact blk_cell h 4 rfl
  · exact blk_cell h 5 rfl
  · exact blk_cell h 6 rfl
theorem PkV.cf (h : PkV p w st s wv rs) (f : Nat) (hf : f < 4) : w.cell? ⟨p, 3 + f, none⟩ = some (s f) := pc_f (cs := #[]) h.blk f hf
theorem PkV.froz (h : PkV p w st s wv rs) (j : Nat) : w.frozen? ⟨p, j, none⟩ = false := blk_froz h.blk j

end

/-- A new disk. -/
theorem new_any (w : World) : Calls Tryz.prog 46 #[] w fun E w' => E = .returned (.pointer (some ⟨w.heap.size, 0, none⟩)) ∧ Pk w.heap.size (fun g => g = w.heap.size) w' Dm.new ∧ Below w.heap.size w w' := by
  obtain ⟨w1, hw1, sz1, bel1, hB⟩ := blk_step w #[.bool true, .bool true, .int .i64 (-1), .slice none 0 0, .slice none 0 0, .slice none 0 0, .slice none 0 0, .slice none 0 0, .int .i64 0] 67
  have D : Hid (Pk w.heap.size (fun g => g = w.heap.size) w1 Dm.new) := ⟨fun _ => .slice none 0 0, .slice none 0 0, [], ⟨hB, ⟨fun f _ => Own.nil _ _ _ _, fun f g _ _ _ b hb => by simp [Value.ownBlock] at hb, OwnG.nil _ _ _ _ _, fun r hr => by simp at hr, fun r hr => by simp at hr, rfl⟩, trivial⟩, by funext g; simp [FB, Value.ownBlock]⟩
  clear hB
  go_enter Tryz.func46, Tryz.ntmps46
  go_wp2
  go_ret
  exact ⟨rfl, D.out, bel1⟩

set_option maxHeartbeats 400000 in
theorem made_any (p : Nat) (F : Nat → Prop) (w : World) (st : Dm.Ds) (h : Pk p F w st) : Calls Tryz.prog 90 #[.pointer (some ⟨p, 0, none⟩)] w fun E w' => E = .returned (.bool true) ∧ w = w' := by
  obtain ⟨s, wv, rs, h, rfl⟩ := h
  have c0 := h.c0
  clear h
  go_enter Tryz.func90, Tryz.ntmps90
  go_wp2
  go_ret
  exact ⟨rfl, rfl⟩

set_option maxHeartbeats 400000 in
theorem refuses_any (p : Nat) (F : Nat → Prop) (w : World) (st : Dm.Ds) (h : Pk p F w st) : Calls Tryz.prog 85 #[.pointer (some ⟨p, 0, none⟩)] w fun E w' => E = .returned (.int .i64 (ask st)) ∧ w = w' := by
  have hn := made_any p F w st h
  obtain ⟨s, wv, rs, h, rfl⟩ := h
  have c1 := h.c1
  have HN := hide hn
  clear h hn
  cases hon : st.on
  · rw [hon] at c1
    rw [ask_off hon]
    clear hon
    go_enter Tryz.func85, Tryz.ntmps85
    go_wp2_with fail
    refine HN.out.mono ?_
    rintro E w1 ⟨rfl, rfl⟩
    go_wp2
    go_ret
    exact ⟨rfl, rfl⟩
  · rw [hon] at c1
    rw [ask_on hon]
    clear hon
    go_enter Tryz.func85, Tryz.ntmps85
    go_wp2_with fail
    refine HN.out.mono ?_
    rintro E w1 ⟨rfl, rfl⟩
    go_wp2
    go_ret
    exact ⟨rfl, rfl⟩

theorem isfile_any (f : Int) (w : World) : Calls Tryz.prog 86 #[.int .i64 f] w fun E w' => E = .returned (.bool (Dm.inF f)) ∧ w = w' := by
  unfold Dm.inF
  by_cases h0 : 0 ≤ f
  · by_cases h4 : f < 4
    · rw [decide_eq_true h0, decide_eq_true h4]
      go_enter Tryz.func86, Tryz.ntmps86
      go_wp2
      go_ret
      exact ⟨rfl, rfl⟩
    · rw [decide_eq_true h0, decide_eq_false h4]
      go_enter Tryz.func86, Tryz.ntmps86
      go_wp2
      go_ret
      exact ⟨rfl, rfl⟩
  · rw [decide_eq_false h0, Bool.false_and]
    go_enter Tryz.func86, Tryz.ntmps86
    go_wp2
    go_ret
    exact ⟨rfl, rfl⟩

set_option maxHeartbeats 400000 in
theorem on_any (p : Nat) (F : Nat → Prop) (w : World) (st : Dm.Ds) (h : Pk p F w st) : Calls Tryz.prog 49 #[.pointer (some ⟨p, 0, none⟩)] w fun E w' => E = .returned (.bool st.on) ∧ w = w' := by
  have hn := made_any p F w st h
  obtain ⟨s, wv, rs, h, rfl⟩ := h
  have c1 := h.c1
  have HN := hide hn
  clear h hn
  go_enter Tryz.func49, Tryz.ntmps49
  go_wp2_with fail
  refine HN.out.mono ?_
  rintro E w1 ⟨rfl, rfl⟩
  go_wp2
  go_ret
  exact ⟨rfl, rfl⟩

end Go.Proofs.YtajlhdmnincehaaGreatDoor

/- The program's disk: what a file holds behind a raw step, copies, Read, Durable. -/
namespace Go.Proofs.YtajlhdmnincehaaGreatDoor
open Go.RowKit
set_option linter.unusedVariables false

set_option maxHeartbeats 2000000 in
theorem behind_any (base : Nat) (vb : Value) (bs : List Int) (r : Rv) (w : World) (hb : Own .u8 5 base w vb bs) (hbase : base ≤ w.heap.size) (hv : Is .u8 w r.v r.bytes) (hto : r.cut = true → r.to ≤ bs.length) (hl : bs.length + r.bytes.length ≤ 140737488355328) :
    Calls Tryz.prog 215 #[.agg #[.int .i64 (kof r), .int .i64 r.file, r.v, .int .i64 r.to], vb] w fun E w' => ∃ v, E = .returned v ∧ Own .u8 5 base w' v (Dm.wth bs r.r) ∧ Out (fun g => vb.ownBlock = some g) w w' ∧ ∀ b, v.ownBlock = some b → vb.ownBlock = some b ∨ w.heap.size ≤ b := by
  cases hc : r.cut
  · have hk : kof r = 0 := by simp [kof, hc]
    have e : Dm.wth bs r.r = bs ++ r.bytes := by simp [Dm.wth, Rv.r, hc]
    rw [e, hk]
    obtain ⟨w1, hw1, sz1, bel1, hB⟩ := blk_step w #[.int .i64 0, .int .i64 r.file, r.v, .int .i64 r.to] 133
    have c0 : w1.cell? ⟨w.heap.size, 0, none⟩ = some (.int .i64 0) := blk_cell hB 0 rfl
    have c2 : w1.cell? ⟨w.heap.size, 2, none⟩ = some r.v := blk_cell hB 2 rfl
    have hb1 := hb.below bel1
    have hv1 := hv.below bel1
    have X : Hid (∀ ty, ∃ v' w', (Builtin.append_ #[28, 28] ty #[vb, r.v]).run Tryz.prog w1 = .ok v' w' ∧ (Own .u8 5 base w' v' (bs ++ r.bytes) ∧ w1.grownBy w' vb.ownBlock ∧ (v'.ownBlock = vb.ownBlock ∨ v'.ownBlock = some w1.heap.size))) := hide fun ty =>
      run_append_is_at 28 ty .u8 5 base 1 Tryz.underlying28 Tryz.info5 (by decide) vb bs hb1 r.v r.bytes hv1 (by omega) (by omega)
    clear hB hb1 hv1 hto hc e hk
    go_enter Tryz.func215, Tryz.ntmps215
    go_wp2_with (at_builtin; refine wpList_append_at rfl (.tmp 9) (.tmp 11) 28 rfl vb r.v rfl rfl X.out ?_)
    intro v2 w2 own2 gr2 at2
    have ho : Out (fun g => vb.ownBlock = some g) w w2 := (Out.of_below bel1).trans (G := fun g => vb.ownBlock = some g) (Out.of_grown gr2 fun g hg => hg) fun g hg => .inl hg
    have hat : ∀ b, v2.ownBlock = some b → vb.ownBlock = some b ∨ w.heap.size ≤ b := by
      intro b hb'
      rcases at2 with h | h
      · exact .inl (by rw [← h]; exact hb')
      · rw [hb'] at h
        simp at h
        exact .inr (by omega)
    have HO := hide ho
    have HAT := hide hat
    clear ho hat at2 gr2
    go_wp2
    go_ret
    exact ⟨_, rfl, own2, HO.out, HAT.out⟩
  · have hk : kof r = 1 := by simp [kof, hc]
    have e : Dm.wth bs r.r = bs.take r.to := by simp [Dm.wth, Rv.r, hc]
    rw [e, hk]
    have hto' := hto hc
    obtain ⟨w1, hw1, sz1, bel1, hB⟩ := blk_step w #[.int .i64 1, .int .i64 r.file, r.v, .int .i64 r.to] 133
    have c0 : w1.cell? ⟨w.heap.size, 0, none⟩ = some (.int .i64 1) := blk_cell hB 0 rfl
    have c3 : w1.cell? ⟨w.heap.size, 3, none⟩ = some (.int .i64 r.to) := blk_cell hB 3 rfl
    obtain ⟨vs, hsl, own, hat⟩ := (hb.below bel1).slice_h Tryz.elemP Tryz.sizeP r.to hto'
    have HO : Hid (Out (fun g => vb.ownBlock = some g) w w1) := hide (Out.of_below bel1)
    have HAT : Hid (∀ b, vs.ownBlock = some b → vb.ownBlock = some b ∨ w.heap.size ≤ b) := hide fun b hb' => .inl (hat b hb')
    clear hB hat hto hc e hk
    go_enter Tryz.func215, Tryz.ntmps215
    go_wp2
    go_ret
    exact ⟨_, rfl, own, HO.out, HAT.out⟩

set_option maxHeartbeats 2000000 in
theorem held_any (p : Nat) (F : Nat → Prop) (w : World) (st : Dm.Ds) (f : Nat) (h : Pk p F w st) (hf : f < 4) (hsz : (st.sure f).length + Dm.bulk st.wait ≤ 140737488355000) (hw : st.wait.length ≤ 1000000) :
    Calls Tryz.prog 197 #[.pointer (some ⟨p, 0, none⟩), .int .i64 f] w fun E w' => ∃ v, E = .returned v ∧ Own .u8 5 w.heap.size w' v (Dm.hold f (st.sure f) st.wait) ∧ Below w.heap.size w w' := by
  obtain ⟨s, wv, rs, h, rfl⟩ := h
  have cf := h.cf f hf
  have c7 := h.c7
  have hp := h.lt p (.inl rfl)
  have isf := (h.con.file f hf).is
  have hlr := h.con.len
  obtain ⟨ao, cap, hv, hcap, hcm⟩ := h.con.row.row.shape
  have hrow : 0 < rs.length → ∃ b off c, wv = .slice (some ⟨b, off, none⟩) rs.length c ∧ b < w.heap.size ∧ ∀ i a, rs[i]? = some a → ∀ j u, (stepc a)[j]? = some u → w.cell? ⟨b, off + i * 4 + j, none⟩ = some u := by
    intro h0
    obtain ⟨b, off, c, h1, _, _, h4, h5⟩ := h.con.row.row.full stepc_len (by decide) h0
    exact ⟨b, off, c, h1, h4, h5⟩
  have H := hide h
  have HROW := hide hrow
  subst hv
  clear h hrow
  have hf0 : (0 : Int) ≤ (f : Int) := by omega
  have hf4 : (f : Int) < 4 := by omega
  go_enter Tryz.func197, Tryz.ntmps197
  go_wp2_with fail
  refine (bclone_any _ _ _ isf (by omega)).mono ?_
  rintro E w1 ⟨v1, rfl, own1, bel1⟩
  have d7 := (bel1.cell (p := ⟨p, 7, none⟩) hp).trans c7
  clear cf isf
  go_wp2
  go_loopw [5, 20] (fun bv iv wr => ∃ k : Nat, k ≤ rs.length ∧ iv = .int .i64 k ∧ Hid (Own .u8 5 w.heap.size wr bv (Dm.hold f (st.sure f) (st.wait.take k))) ∧ Below w.heap.size w wr) (fun _ iv _ => rs.length - (intOf iv).toNat)
  case atStart => exact ⟨0, by omega, rfl, hide (by simpa [Dm.hold] using own1), bel1⟩
  case round =>
    obtain ⟨k, hk, rfl, HT, bel⟩ := hrel
    have sz := bel.size
    by_cases hlt : k < rs.length
    · obtain ⟨b, off, cq, hvx, hB, hcell⟩ := HROW.out (by omega)
      simp only [Value.slice.injEq, true_and] at hvx
      obtain ⟨rfl, rfl⟩ := hvx
      obtain ⟨r, hr⟩ : ∃ r, rs[k]? = some r := ⟨rs[k], by rw [List.getElem?_eq_getElem]⟩
      have e0 : wr.cell? ⟨b, off + k * 4, none⟩ = some (.int .i64 (kof r)) := (bel.cell (p := ⟨b, off + k * 4, none⟩) hB).trans (hcell k r hr 0 _ rfl)
      have e1 : wr.cell? ⟨b, off + k * 4 + 1, none⟩ = some (.int .i64 r.file) := (bel.cell (p := ⟨b, off + k * 4 + 1, none⟩) hB).trans (hcell k r hr 1 _ rfl)
      have e2 : wr.cell? ⟨b, off + k * 4 + 2, none⟩ = some r.v := (bel.cell (p := ⟨b, off + k * 4 + 2, none⟩) hB).trans (hcell k r hr 2 _ rfl)
      have e3 : wr.cell? ⟨b, off + k * 4 + 3, none⟩ = some (.int .i64 r.to) := (bel.cell (p := ⟨b, off + k * 4 + 3, none⟩) hB).trans (hcell k r hr 3 _ rfl)
      obtain ⟨V, hV, hV2, szV, belV, bV, x0, x1, x2, x3⟩ := new_four wr 133 (.int .i64 0) (.int .i64 0) (.slice none 0 0) (.int .i64 0) (.int .i64 (kof r)) (.int .i64 r.file) r.v (.int .i64 r.to)
      have hst : st.wait[k]? = some r.r := by rw [← H.out.con.wait, List.getElem?_map, hr]; rfl
      have hbl := bulk_at hst
      have hhl := Dm.hold_len (st.wait.take k) (st.sure f) f
      have hfit := Dm.valid_at H.out.ok hst
      obtain ⟨ar, cr, hrv, _, _⟩ := (H.out.con.raw r (List.mem_of_getElem? hr)).1.shape
      have ir := (((H.out.con.raw r (List.mem_of_getElem? hr)).1).below bel).below belV
      have HN := hide (hold_next hst f (st.sure f))
      have hlt' : (k : Int) < rs.length := by omega
      have hk0 : (0 : Int) ≤ (k : Int) := by omega
      have belRV := bel.trans (belV.mono (by omega))
      have HTV := hide (HT.out.below belV)
      by_cases hff : r.file = f
      · have hfe : ((r.file : Int) == (f : Int)) = true := by simp [hff]
        have hto : r.cut = true → r.to ≤ (Dm.hold f (st.sure f) (st.wait.take k)).length := by
          intro hc
          have := hfit.2.1 hc
          rw [show r.r.file = f from hff, ← Dm.hold_dof] at this
          exact this
        have HTO := hide hto
        have hlen : (Dm.hold f (st.sure f) (st.wait.take k)).length + r.bytes.length ≤ 140737488355328 := by
          have : r.r.bytes = r.bytes := rfl
          rw [this] at hbl
          omega
        have hff' : r.r.file = f := hff
        have HFF := hide hff'
        have BI := hide (fun (v0 : Value) (h0 : Own .u8 5 w.heap.size V v0 (Dm.hold f (st.sure f) (st.wait.take k))) => behind_any w.heap.size v0 _ r V h0 (by omega) ir HTO.out hlen)
        have HB2 := hide bV
        have HRV := hide hrv
        rw [hrv] at e2 hV hV2 x2
        rw [hrv] at BI
        clear hst hbl hhl hfit hto hff hff' hcell hr HTO hlen ir hrv bV
        go_wp2_with fail
        refine (BI.out _ HTV.out).mono ?_
        rintro E w2 ⟨v2, rfl, own2, out2, at2⟩
        have bel2 : Below w.heap.size V w2 := out2.below (fun g hg => (HTV.out.block g hg).1) (by omega)
        have HT2 : Hid (Own .u8 5 w.heap.size w2 v2 (Dm.hold f (st.sure f) (st.wait.take (k + 1)))) := hide (by
          rw [HN.out, if_pos HFF.out]
          exact own2)
        have belR := belRV.trans bel2
        clear own2 bel2 out2 at2
        go_wp2
        go_roundw
        case rel => exact ⟨k + 1, by omega, by go_num, HT2, belR⟩
        case measure => simp [intOf]; omega
      · have hfe : ((r.file : Int) == (f : Int)) = false := by simp; omega
        have HT2 := hide (show Own .u8 5 w.heap.size V _ (Dm.hold f (st.sure f) (st.wait.take (k + 1))) by rw [HN.out, if_neg (show ¬ r.r.file = f from hff)]; exact HTV.out)
        rw [hrv] at e2 hV hV2 x2
        clear hst hbl hhl hfit hcell hr hff ir hrv bV
        go_wp2
        go_roundw
        case rel => exact ⟨k + 1, by omega, by go_num, HT2, belRV⟩
        case measure => simp [intOf]; omega
    · have hlt' : ¬ (k : Int) < rs.length := by omega
      have HT2 := HT.out
      rw [List.take_of_length_le (by omega)] at HT2
      clear HT
      go_wp2
      go_ret
      exact ⟨_, rfl, HT2, bel⟩

end Go.Proofs.YtajlhdmnincehaaGreatDoor
