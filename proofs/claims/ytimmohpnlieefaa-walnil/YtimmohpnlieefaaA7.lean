/- Texts of one layer, one behind the other. -/
import Derived.Test.YtimmohpnlieefaaA1
/- Bytes of an object, in blocks of its own. -/
namespace Go.Proofs.Ytimmohpnlieefaa
open Go.RowKit
set_option linter.unusedVariables false

/-- Bytes of an object: they lie in the blocks of F, in a block of bytes. -/
def Byt (F : Nat → Prop) (w : World) (v : Value) (zs : List Int) : Prop := Is .u8 w v zs ∧ ∀ b, v.ownBlock = some b → F b ∧ ∃ cs fr, w.heap[b]? = some (.cells cs 5 fr)

theorem Byt.nil (F : Nat → Prop) (w : World) : Byt F w (.slice none 0 0) [] := ⟨Is.nil _ _, fun b hb => by simp [Value.ownBlock] at hb⟩

theorem Byt.agree {F : Nat → Prop} {w w' : World} {v : Value} {zs : List Int} (h : Byt F w v zs) (ha : ∀ b, v.ownBlock = some b → w'.heap[b]? = w.heap[b]?) : Byt F w' v zs :=
  ⟨h.1.agree ha, fun b hb => ⟨(h.2 b hb).1, by obtain ⟨_, cs, fr, hc⟩ := h.2 b hb; exact ⟨cs, fr, (ha b hb).trans hc⟩⟩⟩

theorem Byt.mono {F G : Nat → Prop} {w : World} {v : Value} {zs : List Int} (h : Byt F w v zs) (hs : ∀ g, F g → G g) : Byt G w v zs := ⟨h.1, fun b hb => ⟨hs b (h.2 b hb).1, (h.2 b hb).2⟩⟩

theorem Byt.ne {F : Nat → Prop} {w : World} {v : Value} {zs : List Int} (h : Byt F w v zs) {p : Nat} {cs : Array Value} {t : TypeId} {fr : Nat × Nat} (hp : w.heap[p]? = some (.cells cs t fr)) (ht : t ≠ 5) : ∀ b, v.ownBlock = some b → b ≠ p := by
  intro b hb e
  obtain ⟨_, cs', fr', hc⟩ := h.2 b hb
  rw [e, hp] at hc
  simp at hc
  exact ht hc.2.1

theorem Byt.of_own {F : Nat → Prop} {base : Nat} {w : World} {v : Value} {zs : List Int} (h : Own .u8 5 base w v zs) (hF : ∀ b, base ≤ b → b < w.heap.size → F b) : Byt F w v zs := by
  refine ⟨h.is, fun b hb => ⟨hF b (h.block b hb).1 (h.block b hb).2, ?_⟩⟩
  rcases h.2.2 with ⟨rfl, _⟩ | ⟨g, cap, cur, rfl, _, hh, _⟩
  · simp [Value.ownBlock] at hb
  · simp [Value.ownBlock] at hb
    subst hb
    exact ⟨_, _, hh⟩

end Go.Proofs.Ytimmohpnlieefaa

/- The document's disk in memory, and the contracts of its small methods. -/
namespace Go.Proofs.Ytimmohpnlieefaa
open Go.RowKit
set_option linter.unusedVariables false

/-- A raw step as it stands in memory. -/
structure Rv where
  file : Nat
  cut : Bool
  to : Nat
  v : Value
  bytes : List Int

def Rv.r (r : Rv) : Dm.Rw := ⟨r.file, r.cut, r.to, r.bytes⟩
def rawc (r : Rv) : List Value := [.int .i64 r.file, .bool r.cut, .int .i64 r.to, r.v]
theorem rawc_len (r : Rv) : (rawc r).length = 4 := rfl

/-- A disk's ten cells. -/
def dcells (s : Nat → Value) (wv : Value) (on has : Bool) (left count : Int) : Array Value := #[.bool true, s 0, s 1, s 2, s 3, wv, .bool on, .bool has, .int .i64 left, .int .i64 count]

section
variable {p : Nat} {F G : Nat → Prop} {w w' w1 w2 : World} {st st' : Dm.Ds} {s s' : Nat → Value} {wv wv' : Value} {rs rs' : List Rv}

end

/-- Why nothing is done. -/
def ask (st : Dm.Ds) : Int := if st.on then 0 else 6

theorem ask_on {st : Dm.Ds} (h : st.on = true) : ask st = 0 := by simp [ask, h]
theorem ask_off {st : Dm.Ds} (h : st.on = false) : ask st = 6 := by simp [ask, h]

/-- The disk is nobody's where it was not made: a pointer to such a block, or none. -/
theorem ok_dark {st : Dm.Ds} (h : Dm.Ok st) : Dm.Ok (Dm.dark st) := h
theorem ok_burn {st : Dm.Ds} (h : Dm.Ok st) : Dm.Ok (Dm.burn st) := h

end Go.Proofs.Ytimmohpnlieefaa

/- The program's disk in memory, and the contracts of its small methods. -/
namespace Go.Proofs.Ytimmohpnlieefaa
open Go.RowKit
set_option linter.unusedVariables false

/-- A raw step's kind. -/
def kof (r : Rv) : Int := if r.cut then 1 else 0

/-- A raw step's cells. -/
def stepc (r : Rv) : List Value := [.int .i64 (kof r), .int .i64 r.file, r.v, .int .i64 r.to]
theorem stepc_len (r : Rv) : (stepc r).length = 4 := rfl

/-- The fuse as it is told: -1 where there is none. -/
def pfuse (st : Dm.Ds) : Int := if st.has then st.left else -1

/-- A disk's nine cells. -/
def pcells (s : Nat → Value) (wv : Value) (on : Bool) (fuse count : Int) : Array Value := #[.bool true, .bool on, .int .i64 fuse, s 0, s 1, s 2, s 3, wv, .int .i64 count]

/-- The blocks of a disk. -/
def FB (p : Nat) (s : Nat → Value) (wv : Value) (rs : List Rv) (g : Nat) : Prop :=
  g = p ∨ (∃ f, f < 4 ∧ (s f).ownBlock = some g) ∨ wv.ownBlock = some g ∨ ∃ r ∈ rs, r.v.ownBlock = some g

/-- What a disk holds: its files' slices, each alone in its block; the row of raw steps; their bytes. -/
structure Con (w : World) (sure : Nat → List Int) (wait : List Dm.Rw) (s : Nat → Value) (wv : Value) (rs : List Rv) : Prop where
  file : ∀ f, f < 4 → Own .u8 5 0 w (s f) (sure f)
  apart : ∀ f g, f < 4 → g < 4 → f ≠ g → ∀ b, (s f).ownBlock = some b → (s g).ownBlock ≠ some b
  row : OwnG stepc 4 111 0 w wv rs
  raw : ∀ r ∈ rs, Byt (fun _ => True) w r.v r.bytes
  rawa : ∀ r ∈ rs, ∀ f, f < 4 → ∀ b, r.v.ownBlock = some b → (s f).ownBlock ≠ some b
  wait : rs.map Rv.r = wait

structure PkV (p : Nat) (w : World) (st : Dm.Ds) (s : Nat → Value) (wv : Value) (rs : List Rv) : Prop where
  blk : w.heap[p]? = some (.cells (pcells s wv st.on (pfuse st) st.count) 59 (0, 0))
  con : Con w st.sure st.wait s wv rs
  ok : Dm.Ok st

def Pk (p : Nat) (F : Nat → Prop) (w : World) (st : Dm.Ds) : Prop := ∃ s wv rs, PkV p w st s wv rs ∧ F = FB p s wv rs

section
variable {p : Nat} {F G : Nat → Prop} {w w' w1 w2 : World} {st st' : Dm.Ds} {sure sure' : Nat → List Int} {wait wait' : List Dm.Rw} {s s' : Nat → Value} {wv wv' : Value} {rs rs' : List Rv}

theorem Con.agree (h : Con w sure wait s wv rs) (ha : ∀ g, FB p s wv rs g → w'.heap[g]? = w.heap[g]?) : Con w' sure wait s wv rs :=
  ⟨fun f hf => (h.file f hf).agree fun b hb => ha b (.inr (.inl ⟨f, hf, hb⟩)), h.apart, h.row.agree fun b hb => ha b (.inr (.inr (.inl hb))), fun r hr => (h.raw r hr).agree fun b hb => ha b (.inr (.inr (.inr ⟨r, hr, hb⟩))), h.rawa, h.wait⟩

theorem Con.cel (h : Con w sure wait s wv rs) {cs : Array Value} {t : TypeId} {fr : Nat × Nat} (hp : w.heap[p]? = some (.cells cs t fr)) : ∀ g, FB p s wv rs g → ∃ cs t fr, w.heap[g]? = some (.cells cs t fr) := by
  rintro g (rfl | ⟨f, hf, hb⟩ | hb | ⟨r, hr, hb⟩)
  · exact ⟨_, _, _, hp⟩
  · obtain ⟨cs, hc⟩ := (h.file f hf).type hb
    exact ⟨_, _, _, hc⟩
  · obtain ⟨cs, hc⟩ := h.row.type hb
    exact ⟨_, _, _, hc⟩
  · obtain ⟨_, cs, fr, hc⟩ := (h.raw r hr).2 g hb
    exact ⟨_, _, _, hc⟩

/-- The blocks of what a disk holds are none of another type. -/
theorem Con.ne (h : Con w sure wait s wv rs) {q : Nat} {cs : Array Value} {t : TypeId} {fr : Nat × Nat} (hq : w.heap[q]? = some (.cells cs t fr)) (h1 : t ≠ 5) (h2 : t ≠ 111) :
    (∀ f, f < 4 → ∀ b, (s f).ownBlock = some b → b ≠ q) ∧ (∀ b, wv.ownBlock = some b → b ≠ q) ∧ ∀ r ∈ rs, ∀ b, r.v.ownBlock = some b → b ≠ q := by
  refine ⟨fun f hf b hb e => ?_, fun b hb e => ?_, fun r hr b hb e => ?_⟩
  · obtain ⟨cs, hc⟩ := (h.file f hf).type hb
    rw [e, hq] at hc
    simp at hc
    exact h1 hc.2.1
  · obtain ⟨cs, hc⟩ := h.row.type hb
    rw [e, hq] at hc
    simp at hc
    exact h2 hc.2.1
  · obtain ⟨_, cs, fr, hc⟩ := (h.raw r hr).2 b hb
    rw [e, hq] at hc
    simp at hc
    exact h1 hc.2.1

/-- All but the block q stays, and q is none of its blocks. -/
theorem Con.but (h : Con w sure wait s wv rs) {q : Nat} {cs : Array Value} {t : TypeId} {fr : Nat × Nat} (hq : w.heap[q]? = some (.cells cs t fr)) (h1 : t ≠ 5) (h2 : t ≠ 111) (ha : ∀ b, b ≠ q → b < w.heap.size → w'.heap[b]? = w.heap[b]?) : Con w' sure wait s wv rs := by
  obtain ⟨n1, n2, n3⟩ := h.ne hq h1 h2
  exact ⟨fun f hf => (h.file f hf).agree fun b hb => ha b (n1 f hf b hb) ((h.file f hf).block b hb).2, h.apart, h.row.agree fun b hb => ha b (n2 b hb) (h.row.lt b hb).2, fun r hr => (h.raw r hr).agree fun b hb => ha b (n3 r hr b hb) (by obtain ⟨_, cs, fr, hc⟩ := (h.raw r hr).2 b hb; exact blk_lt hc), h.rawa, h.wait⟩

theorem Con.len (h : Con w sure wait s wv rs) : wait.length = rs.length := by rw [← h.wait, List.length_map]

theorem PkV.cel (h : PkV p w st s wv rs) : ∀ g, FB p s wv rs g → ∃ cs t fr, w.heap[g]? = some (.cells cs t fr) := h.con.cel h.blk
theorem PkV.lt (h : PkV p w st s wv rs) : ∀ g, FB p s wv rs g → g < w.heap.size := fun g hg => by
  obtain ⟨cs, t, fr, hc⟩ := h.cel g hg
  exact blk_lt hc
theorem PkV.agree (h : PkV p w st s wv rs) (ha : ∀ g, FB p s wv rs g → w'.heap[g]? = w.heap[g]?) : PkV p w' st s wv rs := ⟨(ha p (.inl rfl)).trans h.blk, h.con.agree ha, h.ok⟩
theorem PkV.below (h : PkV p w st s wv rs) (hb : Below w.heap.size w w') : PkV p w' st s wv rs := h.agree fun g hg => hb.block g (h.lt g hg)

theorem Pk.cel (h : Pk p F w st) : ∀ g, F g → ∃ cs t fr, w.heap[g]? = some (.cells cs t fr) := by
  obtain ⟨s, wv, rs, h, rfl⟩ := h
  exact h.cel
theorem Pk.lt (h : Pk p F w st) : ∀ g, F g → g < w.heap.size := by
  obtain ⟨s, wv, rs, h, rfl⟩ := h
  exact h.lt
theorem Pk.inp (h : Pk p F w st) : F p := by
  obtain ⟨s, wv, rs, h, rfl⟩ := h
  exact .inl rfl
theorem Pk.agree (h : Pk p F w st) (ha : ∀ g, F g → w'.heap[g]? = w.heap[g]?) : Pk p F w' st := by
  obtain ⟨s, wv, rs, h, rfl⟩ := h
  exact ⟨s, wv, rs, h.agree ha, rfl⟩
theorem Pk.below (h : Pk p F w st) (hb : Below w.heap.size w w') : Pk p F w' st := h.agree fun g hg => hb.block g (h.lt g hg)
theorem Pk.out (h : Pk p F w st) (ho : Out G w w') (hd : ∀ g, F g → ¬ G g) : Pk p F w' st := h.agree fun g hg => ho.block g (h.lt g hg) (hd g hg)
theorem Pk.ok (h : Pk p F w st) : Dm.Ok st := by
  obtain ⟨s, wv, rs, h, rfl⟩ := h
  exact h.ok

/-- What a call does to a disk: its new state; all else is as it was. -/
def PStep (p : Nat) (F : Nat → Prop) (w w' : World) (st' : Dm.Ds) : Prop := ∃ F', Pk p F' w' st' ∧ Out F w w' ∧ ∀ g, F' g → F g ∨ w.heap.size ≤ g

theorem PStep.trans {F1 : Nat → Prop} (ho : Out F w w1) (hs : ∀ g, F1 g → F g ∨ w.heap.size ≤ g) (k : PStep p F1 w1 w2 st') : PStep p F w w2 st' := by
  obtain ⟨F2, h1, h2, h3⟩ := k
  refine ⟨F2, h1, ho.trans h2 hs, fun g hg => ?_⟩
  rcases h3 g hg with h | h
  · exact hs g h
  · exact .inr (Nat.le_trans ho.size h)

theorem PStep.same (h : Pk p F w st) (hb : Below w.heap.size w w') : PStep p F w w' st := ⟨F, h.below hb, Out.of_below hb, fun g hg => .inl hg⟩

/-- Behind a call that made blocks alone. -/
theorem PStep.pre (hb : Below w.heap.size w w1) (h : PStep p F w1 w2 st') : PStep p F w w2 st' := h.trans (Out.of_below hb) fun g hg => .inl hg
theorem PStep.post (h : PStep p F w w1 st') (hb : Below w1.heap.size w1 w2) : PStep p F w w2 st' := by
  obtain ⟨F1, h1, h2, h3⟩ := h
  exact ⟨F1, h1.below hb, h2.trans (Out.of_below (F := F) hb) fun g hg => .inl hg, h3⟩

/-- One cell of the disk's block is written; what it holds is 'Con' already. -/
theorem PkV.put {cs : Array Value} (hblk : w.heap[p]? = some (.cells cs 59 (0, 0))) (j : Nat) (u : Value) (hc : cs.setIfInBounds j u = pcells s' wv' st'.on (pfuse st') st'.count) (hcon : Con w st'.sure st'.wait s' wv' rs') (hok : Dm.Ok st') :
    PkV p (w.setCell ⟨p, j, none⟩ u) st' s' wv' rs' ∧ Out (fun g => g = p) w (w.setCell ⟨p, j, none⟩ u) := by
  refine ⟨⟨by rw [set_cells hblk, hc], hcon.but hblk (by decide) (by decide) fun b hb _ => Below.heap_setCell _ _ _ _ hb, hok⟩, Out.of_grown (grown_setCell w ⟨p, j, none⟩ u) fun g hg => by simp at hg; exact hg.symm⟩

/-- Scalars alone are written. -/
theorem PkV.set (h : PkV p w st s wv rs) (j : Nat) (u : Value) (hc : (pcells s wv st.on (pfuse st) st.count).setIfInBounds j u = pcells s wv st'.on (pfuse st') st'.count) (h1 : st'.sure = st.sure) (h2 : st'.wait = st.wait) :
    PkV p (w.setCell ⟨p, j, none⟩ u) st' s wv rs ∧ Out (FB p s wv rs) w (w.setCell ⟨p, j, none⟩ u) := by
  obtain ⟨r1, r2⟩ := PkV.put (st' := st') (s' := s) (wv' := wv) (rs' := rs) h.blk j u hc (by rw [h1, h2]; exact h.con) (by have := h.ok; unfold Dm.Ok at this ⊢; rw [h1, h2]; exact this)
  exact ⟨r1, r2.mono fun g hg => .inl (.inl hg)⟩

theorem PStep.of_set (h : PkV p w' st' s wv rs) (ho : Out (FB p s wv rs) w w') : PStep p (FB p s wv rs) w w' st' := ⟨_, ⟨s, wv, rs, h, rfl⟩, ho, fun g hg => .inl hg⟩

theorem PkV.cell (h : PkV p w st s wv rs) (j : Nat) {u : Value} (hj : (pcells s wv st.on (pfuse st) st.count)[j]? = some u) : w.cell? ⟨p, j, none⟩ = some u := blk_cell h.blk j hj
theorem PkV.c0 (h : PkV p w st s wv rs) : w.cell? ⟨p, 0, none⟩ = some (.bool true) := h.cell 0 rfl
theorem PkV.c1 (h : PkV p w st s wv rs) : w.cell? ⟨p, 1, none⟩ = some (.bool st.on) := h.cell 1 rfl
theorem PkV.c2 (h : PkV p w st s wv rs) : w.cell? ⟨p, 2, none⟩ = some (.int .i64 (pfuse st)) := h.cell 2 rfl
theorem PkV.c7 (h : PkV p w st s wv rs) : w.cell? ⟨p, 7, none⟩ = some wv := h.cell 7 rfl
theorem PkV.c8 (h : PkV p w st s wv rs) : w.cell? ⟨p, 8, none⟩ = some (.int .i64 st.count) := h.cell 8 rfl
theorem pc_f {cs : Array Value} {on : Bool} {fuse count : Int} (h : w.heap[p]? = some (.cells (pcells s wv on fuse count) 59 (0, 0))) (f : Nat) (hf : f < 4) : w.cell? ⟨p, 3 + f, none⟩ = some (s f) := by
  rcases (show f = 0 ∨ f = 1 ∨ f = 2 ∨ f = 3 by omega) with rfl | rfl | rfl | rfl
  · exact blk_cell h 3 rfl
  · exact blk_cell h 4 rfl
  · exact blk_cell h 5 rfl
  · exact blk_cell h 6 rfl
theorem PkV.cf (h : PkV p w st s wv rs) (f : Nat) (hf : f < 4) : w.cell? ⟨p, 3 + f, none⟩ = some (s f) := pc_f (cs := #[]) h.blk f hf
theorem PkV.froz (h : PkV p w st s wv rs) (j : Nat) : w.frozen? ⟨p, j, none⟩ = false := blk_froz h.blk j

end

/-- A new disk. -/
theorem new_any (w : World) : Calls Try.prog 10 #[] w fun E w' => E = .returned (.pointer (some ⟨w.heap.size, 0, none⟩)) ∧ Pk w.heap.size (fun g => g = w.heap.size) w' Dm.new ∧ Below w.heap.size w w' := by
  obtain ⟨w1, hw1, sz1, bel1, hB⟩ := blk_step w #[.bool true, .bool true, .int .i64 (-1), .slice none 0 0, .slice none 0 0, .slice none 0 0, .slice none 0 0, .slice none 0 0, .int .i64 0] 59
  have D : Hid (Pk w.heap.size (fun g => g = w.heap.size) w1 Dm.new) := ⟨fun _ => .slice none 0 0, .slice none 0 0, [], ⟨hB, ⟨fun f _ => Own.nil _ _ _ _, fun f g _ _ _ b hb => by simp [Value.ownBlock] at hb, OwnG.nil _ _ _ _ _, fun r hr => by simp at hr, fun r hr => by simp at hr, rfl⟩, trivial⟩, by funext g; simp [FB, Value.ownBlock]⟩
  clear hB
  go_enter Try.func10, Try.ntmps10
  go_wp2
  go_ret
  exact ⟨rfl, D.out, bel1⟩

set_option maxHeartbeats 400000 in
theorem made_any (p : Nat) (F : Nat → Prop) (w : World) (st : Dm.Ds) (h : Pk p F w st) : Calls Try.prog 67 #[.pointer (some ⟨p, 0, none⟩)] w fun E w' => E = .returned (.bool true) ∧ w = w' := by
  obtain ⟨s, wv, rs, h, rfl⟩ := h
  have c0 := h.c0
  clear h
  go_enter Try.func67, Try.ntmps67
  go_wp2
  go_ret
  exact ⟨rfl, rfl⟩

set_option maxHeartbeats 400000 in
theorem refuses_any (p : Nat) (F : Nat → Prop) (w : World) (st : Dm.Ds) (h : Pk p F w st) : Calls Try.prog 65 #[.pointer (some ⟨p, 0, none⟩)] w fun E w' => E = .returned (.int .i64 (ask st)) ∧ w = w' := by
  have hn := made_any p F w st h
  obtain ⟨s, wv, rs, h, rfl⟩ := h
  have c1 := h.c1
  have HN := hide hn
  clear h hn
  cases hon : st.on
  · rw [hon] at c1
    rw [ask_off hon]
    clear hon
    go_enter Try.func65, Try.ntmps65
    go_wp2_with fail
    refine HN.out.mono ?_
    rintro E w1 ⟨rfl, rfl⟩
    go_wp2
    go_ret
    exact ⟨rfl, rfl⟩
  · rw [hon] at c1
    rw [ask_on hon]
    clear hon
    go_enter Try.func65, Try.ntmps65
    go_wp2_with fail
    refine HN.out.mono ?_
    rintro E w1 ⟨rfl, rfl⟩
    go_wp2
    go_ret
    exact ⟨rfl, rfl⟩

theorem isfile_any (f : Int) (w : World) : Calls Try.prog 72 #[.int .i64 f] w fun E w' => E = .returned (.bool (Dm.inF f)) ∧ w = w' := by
  unfold Dm.inF
  by_cases h0 : 0 ≤ f
  · by_cases h4 : f < 4
    · rw [decide_eq_true h0, decide_eq_true h4]
      go_enter Try.func72, Try.ntmps72
      go_wp2
      go_ret
      exact ⟨rfl, rfl⟩
    · rw [decide_eq_true h0, decide_eq_false h4]
      go_enter Try.func72, Try.ntmps72
      go_wp2
      go_ret
      exact ⟨rfl, rfl⟩
  · rw [decide_eq_false h0, Bool.false_and]
    go_enter Try.func72, Try.ntmps72
    go_wp2
    go_ret
    exact ⟨rfl, rfl⟩

set_option maxHeartbeats 400000 in
theorem on_any (p : Nat) (F : Nat → Prop) (w : World) (st : Dm.Ds) (h : Pk p F w st) : Calls Try.prog 30 #[.pointer (some ⟨p, 0, none⟩)] w fun E w' => E = .returned (.bool st.on) ∧ w = w' := by
  have hn := made_any p F w st h
  obtain ⟨s, wv, rs, h, rfl⟩ := h
  have c1 := h.c1
  have HN := hide hn
  clear h hn
  go_enter Try.func30, Try.ntmps30
  go_wp2_with fail
  refine HN.out.mono ?_
  rintro E w1 ⟨rfl, rfl⟩
  go_wp2
  go_ret
  exact ⟨rfl, rfl⟩

set_option maxHeartbeats 400000 in
theorem pull_any (p : Nat) (F : Nat → Prop) (w : World) (st : Dm.Ds) (h : Pk p F w st) :
    Calls Try.prog 31 #[.pointer (some ⟨p, 0, none⟩)] w fun E w' => E = .returned (.int .i64 (Dm.pull st).1) ∧ PStep p F w w' (Dm.pull st).2 := by
  have ha := refuses_any p F w st h
  have HK := hide h
  obtain ⟨s, wv, rs, h, rfl⟩ := h
  have c1 := h.c1
  have f1 := h.froz 1
  have R := h.set (st' := Dm.dark st) 1 (.bool false) rfl rfl rfl
  have HR : Hid (PStep p (FB p s wv rs) w (w.setCell ⟨p, 1, none⟩ (.bool false)) (Dm.dark st)) := PStep.of_set R.1 R.2
  have HA := hide ha
  clear h R ha
  unfold Dm.pull
  cases hon : st.on
  · rw [if_pos rfl]
    have hk := ask_off hon
    clear hon
    go_enter Try.func31, Try.ntmps31
    go_wp2_with fail
    refine HA.out.mono ?_
    rintro E w1 ⟨rfl, rfl⟩
    rw [hk]
    go_wp2
    go_ret
    exact ⟨rfl, PStep.same HK.out (Below.refl _ _)⟩
  · rw [if_neg (by simp)]
    have hk := ask_on hon
    clear hon
    go_enter Try.func31, Try.ntmps31
    go_wp2_with fail
    refine HA.out.mono ?_
    rintro E w1 ⟨rfl, rfl⟩
    rw [hk]
    go_wp2
    go_ret
    exact ⟨rfl, HR.out⟩

set_option maxHeartbeats 400000 in
theorem fuse_any (p : Nat) (F : Nat → Prop) (w : World) (st : Dm.Ds) (n : Int) (h : Pk p F w st) :
    Calls Try.prog 27 #[.pointer (some ⟨p, 0, none⟩), .int .i64 n] w fun E w' => E = .returned (.int .i64 (Dm.fuse st n).1) ∧ PStep p F w w' (Dm.fuse st n).2 := by
  have ha := refuses_any p F w st h
  have HK := hide h
  obtain ⟨s, wv, rs, h, rfl⟩ := h
  have c2 := h.c2
  have f2 := h.froz 2
  have HA := hide ha
  clear ha
  unfold Dm.fuse
  cases hon : st.on
  · rw [if_pos rfl]
    have hk := ask_off hon
    clear hon h
    go_enter Try.func27, Try.ntmps27
    go_wp2_with fail
    refine HA.out.mono ?_
    rintro E w1 ⟨rfl, rfl⟩
    rw [hk]
    go_wp2
    go_ret
    exact ⟨rfl, PStep.same HK.out (Below.refl _ _)⟩
  · rw [if_neg (by simp)]
    have hk := ask_on hon
    by_cases hn : n < 0
    · rw [if_pos hn]
      clear hon h
      go_enter Try.func27, Try.ntmps27
      go_wp2_with fail
      refine HA.out.mono ?_
      rintro E w1 ⟨rfl, rfl⟩
      rw [hk]
      go_wp2
      go_ret
      exact ⟨rfl, PStep.same HK.out (Below.refl _ _)⟩
    · rw [if_neg hn]
      have hcast : ((n.toNat : Nat) : Int) = n := by omega
      have R := h.set (st' := { st with has := true, left := n.toNat }) 2 (.int .i64 n) (by simp [pcells, pfuse, hcast]) rfl rfl
      have HR : Hid (PStep p (FB p s wv rs) w (w.setCell ⟨p, 2, none⟩ (.int .i64 n)) { st with has := true, left := n.toNat }) := PStep.of_set R.1 R.2
      have hs : { st with has := true, left := n.toNat } = ({ sure := st.sure, wait := st.wait, on := true, has := true, left := n.toNat, count := st.count } : Dm.Ds) := by rw [← hon]
      rw [hs] at HR
      clear h R hs hcast hon
      go_enter Try.func27, Try.ntmps27
      go_wp2_with fail
      refine HA.out.mono ?_
      rintro E w1 ⟨rfl, rfl⟩
      rw [hk]
      go_wp2
      go_ret
      exact ⟨rfl, HR.out⟩

end Go.Proofs.Ytimmohpnlieefaa

/- The contracts of the document's disk: what it tells (On, Pending, Steps, Read, Durable), Fuse. -/
namespace Go.Proofs.Ytimmohpnlieefaa
open Go.RowKit
set_option linter.unusedVariables false

theorem wtake_next {l : List Dm.Rw} {k : Nat} {r : Dm.Rw} (h : l[k]? = some r) : l.take (k + 1) = l.take k ++ [r] := by
  obtain ⟨hk, rfl⟩ := List.getElem?_eq_some_iff.1 h
  exact List.take_succ_eq_append_getElem hk

theorem bulk_take : ∀ (l : List Dm.Rw) (k : Nat), Dm.bulk (l.take k) ≤ Dm.bulk l
  | [], k => by simp [Dm.bulk]
  | r :: l, 0 => by simp [Dm.bulk]
  | r :: l, k + 1 => by
    have := bulk_take l k
    simp only [List.take_succ_cons, Dm.bulk]
    omega

theorem bulk_at {l : List Dm.Rw} {k : Nat} {r : Dm.Rw} (h : l[k]? = some r) : Dm.bulk (l.take k) + r.bytes.length ≤ Dm.bulk l := by
  have h1 := bulk_take l (k + 1)
  rw [wtake_next h, Dm.bulk_app] at h1
  simp only [Dm.bulk] at h1
  omega

theorem hold_next {l : List Dm.Rw} {k : Nat} {r : Dm.Rw} (h : l[k]? = some r) (f : Nat) (b : List Int) : Dm.hold f b (l.take (k + 1)) = if r.file = f then Dm.wth (Dm.hold f b (l.take k)) r else Dm.hold f b (l.take k) := by
  rw [wtake_next h, Dm.hold_snoc]

end Go.Proofs.Ytimmohpnlieefaa
