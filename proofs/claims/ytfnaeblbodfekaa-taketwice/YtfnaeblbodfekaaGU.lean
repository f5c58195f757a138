/- Texts of one layer, one behind the other. -/
import Derived.Test.YtfnaeblbodfekaaG6
import Derived.Test.YtfnaeblbodfekaaG2
import Derived.Test.YtfnaeblbodfekaaG9
import Derived.Test.YtfnaeblbodfekaaG4
import Derived.Test.YtfnaeblbodfekaaG8
/- Disks, by mathematics. No program. -/
namespace Go.Proofs.Ytfnaeblbodfekaa.Dm
set_option linter.unusedVariables false

/-- A raw step that is pending. -/
structure Rw where
  file : Nat
  cut : Bool
  to : Nat
  bytes : List Int

/-- A disk: what is durable, what is pending; is it on; its fuse; how many raw steps it has done. -/
structure Ds where
  sure : Nat → List Int
  wait : List Rw
  on : Bool
  has : Bool
  left : Nat
  count : Nat

def upd (s : Nat → List Int) (f : Nat) (x : List Int) : Nat → List Int := fun j => if j = f then x else s j

theorem upd_same (s : Nat → List Int) (f : Nat) (x : List Int) : upd s f x f = x := by simp [upd]
theorem upd_other {s : Nat → List Int} {f j : Nat} {x : List Int} (h : j ≠ f) : upd s f x j = s j := by simp [upd, h]

/-- Bytes behind a raw step. -/
def wth (b : List Int) (r : Rw) : List Int := if r.cut then b.take r.to else b ++ r.bytes

def one (s : Nat → List Int) (r : Rw) : Nat → List Int := upd s r.file (wth (s r.file) r)

/-- All of them done, in order. -/
def dof (s : Nat → List Int) : List Rw → Nat → List Int
  | [] => s
  | r :: l => dof (one s r) l

theorem dof_app : ∀ (l m : List Rw) (s : Nat → List Int), dof s (l ++ m) = dof (dof s l) m
  | [], _, _ => rfl
  | r :: l, m, s => dof_app l m (one s r)

theorem dof_snoc (l : List Rw) (r : Rw) (s : Nat → List Int) : dof s (l ++ [r]) = one (dof s l) r := dof_app l [r] s

/-- One file's bytes behind the steps of that file. -/
def hold (f : Nat) (b : List Int) : List Rw → List Int
  | [] => b
  | r :: l => hold f (if r.file = f then wth b r else b) l

theorem hold_dof : ∀ (l : List Rw) (s : Nat → List Int) (f : Nat), hold f (s f) l = dof s l f
  | [], _, _ => rfl
  | r :: l, s, f => by
    rw [hold, dof, ← hold_dof l (one s r) f]
    congr 1
    by_cases h : r.file = f
    · subst h; rw [if_pos rfl, one, upd_same]
    · rw [if_neg h, one, upd_other (Ne.symm h)]

theorem hold_app : ∀ (l m : List Rw) (b : List Int) (f : Nat), hold f b (l ++ m) = hold f (hold f b l) m
  | [], _, _, _ => rfl
  | r :: l, m, b, f => hold_app l m _ f

theorem hold_snoc (l : List Rw) (r : Rw) (b : List Int) (f : Nat) : hold f b (l ++ [r]) = if r.file = f then wth (hold f b l) r else hold f b l := hold_app l [r] b f

/-- A raw step that fits what stands ahead of it. -/
def fits (s : Nat → List Int) (r : Rw) : Prop := r.file < 4 ∧ (r.cut = true → r.to ≤ (s r.file).length) ∧ (r.cut = false → 1 ≤ r.bytes.length ∧ r.bytes.length ≤ 64)

def valid (s : Nat → List Int) : List Rw → Prop
  | [] => True
  | r :: l => fits s r ∧ valid (one s r) l

theorem valid_app : ∀ (l m : List Rw) (s : Nat → List Int), valid s (l ++ m) ↔ valid s l ∧ valid (dof s l) m
  | [], _, _ => by simp [valid, dof]
  | r :: l, m, s => by simp [valid, dof, valid_app l m, and_assoc]

theorem valid_at {l : List Rw} {s : Nat → List Int} (h : valid s l) {k : Nat} {r : Rw} (hk : l[k]? = some r) : fits (dof s (l.take k)) r := by
  obtain ⟨hlt, rfl⟩ := List.getElem?_eq_some_iff.1 hk
  rw [← List.take_append_drop k l, valid_app, List.drop_eq_getElem_cons hlt] at h
  exact h.2.1

/-- How many bytes are pending. -/
def bulk : List Rw → Nat
  | [] => 0
  | r :: l => r.bytes.length + bulk l

theorem bulk_app : ∀ (l m : List Rw), bulk (l ++ m) = bulk l + bulk m
  | [], _ => by simp [bulk]
  | r :: l, m => by simp [bulk, bulk_app l m]; omega

theorem wth_len (b : List Int) (r : Rw) : (wth b r).length ≤ b.length + r.bytes.length := by
  unfold wth
  split
  · rw [List.length_take]; omega
  · simp

theorem hold_len : ∀ (l : List Rw) (b : List Int) (f : Nat), (hold f b l).length ≤ b.length + bulk l
  | [], _, _ => by simp [hold, bulk]
  | r :: l, b, f => by
    have h1 := hold_len l (if r.file = f then wth b r else b) f
    have h2 := wth_len b r
    simp only [hold, bulk]
    split at h1 <;> simp_all <;> omega

/-- No file, nor what is pending, has more than t bytes in all; no more than u raw steps. -/
def Sz (t u : Nat) (st : Ds) : Prop := (∀ f, (st.sure f).length + bulk st.wait ≤ t) ∧ st.wait.length ≤ u ∧ st.count ≤ u

def Ok (st : Ds) : Prop := valid st.sure st.wait

/-- One raw step is allowed, or the disk goes off. -/
def off (st : Ds) : Bool := st.has && st.left == 0
def burn (st : Ds) : Ds := { st with left := if st.has then st.left - 1 else st.left, count := st.count + 1 }
def dark (st : Ds) : Ds := { st with on := false }
def push (st : Ds) (r : Rw) : Ds := { st with wait := st.wait ++ [r] }

/-- The raw writes of a Write, piece by piece (n: as many bytes at the most). -/
def wrt (file : Nat) : Nat → Ds → List Int → Int × Ds
  | 0, st, _ => (0, st)
  | n + 1, st, bs => if bs = [] then (0, st) else if off st then (6, dark st) else wrt file n (push (burn st) ⟨file, false, 0, bs.take 64⟩) (bs.drop 64)

def inF (file : Int) : Bool := decide (0 ≤ file) && decide (file < 4)

def write (st : Ds) (file : Int) (bs : List Int) : Int × Ds := if st.on = false then (6, st) else if inF file = false then (2, st) else wrt file.toNat bs.length st bs
def cutD (st : Ds) (file len : Int) : Int × Ds := if st.on = false then (6, st) else if inF file = false then (2, st) else if len < 0 ∨ (hold file.toNat (st.sure file.toNat) st.wait).length < len then (2, st) else if off st then (6, dark st) else (0, push (burn st) ⟨file.toNat, true, len.toNat, []⟩)
def flush (st : Ds) : Ds := { st with sure := dof st.sure st.wait, wait := [] }
def sync (st : Ds) : Int × Ds := if st.on = false then (6, st) else if off st then (6, dark st) else (0, flush (burn st))
def fuse (st : Ds) (n : Int) : Int × Ds := if st.on = false then (6, st) else if n < 0 then (2, st) else (0, { st with has := true, left := n.toNat })
def safe (st : Ds) : Int × Ds := if st.on = false then (6, st) else (0, { st with has := false })
def pull (st : Ds) : Int × Ds := if st.on = false then (6, st) else (0, dark st)

/-- What stands of the steps when it is on again with k and t. -/
def kept (st : Ds) (k t : Nat) : Nat → List Int :=
  match st.wait[k]? with
  | some r => if r.cut then dof st.sure (st.wait.take k) else one (dof st.sure (st.wait.take k)) ⟨r.file, false, 0, r.bytes.take (min t (r.bytes.length - 1))⟩
  | none => dof st.sure (st.wait.take k)
def start (st : Ds) (k t : Int) : Int × Ds := if st.on = true ∨ k < 0 ∨ t < 0 then (2, st) else (0, { st with sure := kept st k.toNat t.toNat, wait := [], has := false, on := true })

def new : Ds := ⟨fun _ => [], [], true, false, 0, 0⟩

end Go.Proofs.Ytfnaeblbodfekaa.Dm

/- Bytes of an object, in blocks of its own. -/
namespace Go.Proofs.Ytfnaeblbodfekaa
open Go.RowKit
set_option linter.unusedVariables false

/-- Bytes of an object: they lie in the blocks of F, in a block of bytes. -/
def Byt (F : Nat → Prop) (w : World) (v : Value) (zs : List Int) : Prop := Is .u8 w v zs ∧ ∀ b, v.ownBlock = some b → F b ∧ ∃ cs fr, w.heap[b]? = some (.cells cs 5 fr)

theorem Byt.nil (F : Nat → Prop) (w : World) : Byt F w (.slice none 0 0) [] := ⟨Is.nil _ _, fun b hb => by simp [Value.ownBlock] at hb⟩

theorem Byt.agree {F : Nat → Prop} {w w' : World} {v : Value} {zs : List Int} (h : Byt F w v zs) (ha : ∀ b, v.ownBlock = some b → w'.heap[b]? = w.heap[b]?) : Byt F w' v zs :=
  ⟨h.1.agree ha, fun b hb => ⟨(h.2 b hb).1, by obtain ⟨_, cs, fr, hc⟩ := h.2 b hb; exact ⟨cs, fr, (ha b hb).trans hc⟩⟩⟩

theorem Byt.mono {F G : Nat → Prop} {w : World} {v : Value} {zs : List Int} (h : Byt F w v zs) (hs : ∀ g, F g → G g) : Byt G w v zs := ⟨h.1, fun b hb => ⟨hs b (h.2 b hb).1, (h.2 b hb).2⟩⟩

theorem Byt.ne {F : Nat → Prop} {w : World} {v : Value} {zs : List Int} (h : Byt F w v zs) {p : Nat} {cs : Array Value} {t : TypeId} {fr : Nat × Nat} (hp : w.heap[p]? = some (.cells cs t fr)) (ht : t ≠ 5) : ∀ b, v.ownBlock = some b → b ≠ p := by
  intro b hb e
  obtain ⟨_, cs', fr', hc⟩ := h.2 b hb
  rw [e, hp] at hc
  simp at hc
  exact ht hc.2.1

theorem Byt.of_own {F : Nat → Prop} {base : Nat} {w : World} {v : Value} {zs : List Int} (h : Own .u8 5 base w v zs) (hF : ∀ b, base ≤ b → b < w.heap.size → F b) : Byt F w v zs := by
  refine ⟨h.is, fun b hb => ⟨hF b (h.block b hb).1 (h.block b hb).2, ?_⟩⟩
  rcases h.2.2 with ⟨rfl, _⟩ | ⟨g, cap, cur, rfl, _, hh, _⟩
  · simp [Value.ownBlock] at hb
  · simp [Value.ownBlock] at hb
    subst hb
    exact ⟨_, _, hh⟩

end Go.Proofs.Ytfnaeblbodfekaa

/- The document's disk in memory, and the contracts of its small methods. -/
namespace Go.Proofs.Ytfnaeblbodfekaa
open Go.RowKit
set_option linter.unusedVariables false

/-- A raw step as it stands in memory. -/
structure Rv where
  file : Nat
  cut : Bool
  to : Nat
  v : Value
  bytes : List Int

def Rv.r (r : Rv) : Dm.Rw := ⟨r.file, r.cut, r.to, r.bytes⟩
def rawc (r : Rv) : List Value := [.int .i64 r.file, .bool r.cut, .int .i64 r.to, r.v]
theorem rawc_len (r : Rv) : (rawc r).length = 4 := rfl

/-- A disk's ten cells. -/
def dcells (s : Nat → Value) (wv : Value) (on has : Bool) (left count : Int) : Array Value := #[.bool true, s 0, s 1, s 2, s 3, wv, .bool on, .bool has, .int .i64 left, .int .i64 count]

section
variable {p : Nat} {F G : Nat → Prop} {w w' w1 w2 : World} {st st' : Dm.Ds} {s s' : Nat → Value} {wv wv' : Value} {rs rs' : List Rv}

end

/-- Why nothing is done. -/
def ask (st : Dm.Ds) : Int := if st.on then 0 else 6

theorem ask_on {st : Dm.Ds} (h : st.on = true) : ask st = 0 := by simp [ask, h]
theorem ask_off {st : Dm.Ds} (h : st.on = false) : ask st = 6 := by simp [ask, h]

/-- The disk is nobody's where it was not made: a pointer to such a block, or none. -/
theorem ok_dark {st : Dm.Ds} (h : Dm.Ok st) : Dm.Ok (Dm.dark st) := h
theorem ok_burn {st : Dm.Ds} (h : Dm.Ok st) : Dm.Ok (Dm.burn st) := h

end Go.Proofs.Ytfnaeblbodfekaa

/- The program's disk in memory, and the contracts of its small methods. -/
namespace Go.Proofs.Ytfnaeblbodfekaa
open Go.RowKit
set_option linter.unusedVariables false

/-- A raw step's kind. -/
def kof (r : Rv) : Int := if r.cut then 1 else 0

/-- A raw step's cells. -/
def stepc (r : Rv) : List Value := [.int .i64 (kof r), .int .i64 r.file, r.v, .int .i64 r.to]
theorem stepc_len (r : Rv) : (stepc r).length = 4 := rfl

/-- The fuse as it is told: -1 where there is none. -/
def pfuse (st : Dm.Ds) : Int := if st.has then st.left else -1

/-- A disk's nine cells. -/
def pcells (s : Nat → Value) (wv : Value) (on : Bool) (fuse count : Int) : Array Value := #[.bool true, .bool on, .int .i64 fuse, s 0, s 1, s 2, s 3, wv, .int .i64 count]

/-- The blocks of a disk. -/
def FB (p : Nat) (s : Nat → Value) (wv : Value) (rs : List Rv) (g : Nat) : Prop :=
  g = p ∨ (∃ f, f < 4 ∧ (s f).ownBlock = some g) ∨ wv.ownBlock = some g ∨ ∃ r ∈ rs, r.v.ownBlock = some g

section
variable {p : Nat} {F G : Nat → Prop} {w w' w1 w2 : World} {st st' : Dm.Ds} {sure sure' : Nat → List Int} {wait wait' : List Dm.Rw} {s s' : Nat → Value} {wv wv' : Value} {rs rs' : List Rv}

end

end Go.Proofs.Ytfnaeblbodfekaa

/- Of which types the blocks of rows and of a disk are. No program. -/
namespace Go.Proofs.Ytfnaeblbodfekaa
open Go.RowKit
set_option linter.unusedVariables false

section
variable {base : Nat} {w : World} {F : Nat → Prop}

theorem OwnR.type {e : TypeId} {r : List Cw} {v : Value} (h : OwnR e base w v r) {g : Nat} (hg : v.ownBlock = some g) : ∃ cs, w.heap[g]? = some (.cells cs e (0, 0)) := by
  rcases h.2 with ⟨rfl, _⟩ | ⟨g', cap, cur, rfl, _, hh, _⟩
  · simp [Value.ownBlock] at hg
  · simp [Value.ownBlock] at hg
    subst hg
    exact ⟨_, hh⟩

theorem OwnO.type {e : TypeId} {r : List Bm.Ov} {v : Value} (h : OwnO e base w v r) {g : Nat} (hg : v.ownBlock = some g) : ∃ cs, w.heap[g]? = some (.cells cs e (0, 0)) := by
  rcases h.2 with ⟨rfl, _⟩ | ⟨g', cap, cur, rfl, _, hh, _⟩
  · simp [Value.ownBlock] at hg
  · simp [Value.ownBlock] at hg
    subst hg
    exact ⟨_, hh⟩

end

theorem IsO.out {F : Nat → Prop} {w w' : World} {v : Value} {l : List Bm.Ov} (h : IsO w v l) (ho : Out F w w') (hF : 0 < l.length → ∀ b, v.ownBlock = some b → ¬ F b) : IsO w' v l := by
  rcases h with h | ⟨ad, cap, hv, h1, h2, hc⟩
  · exact .inl h
  · refine .inr ⟨ad, cap, hv, h1, h2, fun j u hj => ?_⟩
    have hk := hc j u hj
    have hl : 0 < l.length := by
      rcases l with _ | ⟨x, l⟩
      · simp [ocells] at hj
      · simp
    have eb : (ad.add j).block = ad.block := by unfold Addr.add; split <;> rfl
    have hlt := World.block_lt_of_cell? _ _ hk
    rw [World.cell?_of_block (ho.block _ hlt (by rw [eb]; exact hF hl _ (by rw [hv]; rfl)))]
    exact hk

theorem Out.flip {F : Nat → Prop} {w w1 w2 : World} (h : Out F w1 w2) (hb : Below w.heap.size w w1) : Out F w w2 := (Out.of_below (F := F) hb).trans h fun g hg => .inl hg

end Go.Proofs.Ytfnaeblbodfekaa
