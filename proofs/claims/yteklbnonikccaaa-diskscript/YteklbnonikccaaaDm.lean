/- Disks, by mathematics. No program. -/
namespace Go.Proofs.Yteklbnonikccaaa.Dm
set_option linter.unusedVariables false

/-- A raw step that is pending. -/
structure Rw where
  file : Nat
  cut : Bool
  to : Nat
  bytes : List Int

/-- A disk: what is durable, what is pending; is it on; its fuse; how many raw steps it has done. -/
structure Ds where
  sure : Nat → List Int
  wait : List Rw
  on : Bool
  has : Bool
  left : Nat
  count : Nat

def upd (s : Nat → List Int) (f : Nat) (x : List Int) : Nat → List Int := fun j => if j = f then x else s j

theorem upd_same (s : Nat → List Int) (f : Nat) (x : List Int) : upd s f x f = x := by simp [upd]
theorem upd_other {s : Nat → List Int} {f j : Nat} {x : List Int} (h : j ≠ f) : upd s f x j = s j := by simp [upd, h]

/-- Bytes behind a raw step. -/
def wth (b : List Int) (r : Rw) : List Int := if r.cut then b.take r.to else b ++ r.bytes

def one (s : Nat → List Int) (r : Rw) : Nat → List Int := upd s r.file (wth (s r.file) r)

/-- All of them done, in order. -/
def dof (s : Nat → List Int) : List Rw → Nat → List Int
  | [] => s
  | r :: l => dof (one s r) l

theorem dof_app : ∀ (l m : List Rw) (s : Nat → List Int), dof s (l ++ m) = dof (dof s l) m
  | [], _, _ => rfl
  | r :: l, m, s => dof_app l m (one s r)

theorem dof_snoc (l : List Rw) (r : Rw) (s : Nat → List Int) : dof s (l ++ [r]) = one (dof s l) r := dof_app l [r] s

/-- One file's bytes behind the steps of that file. -/
def hold (f : Nat) (b : List Int) : List Rw → List Int
  | [] => b
  | r :: l => hold f (if r.file = f then wth b r else b) l

theorem hold_dof : ∀ (l : List Rw) (s : Nat → List Int) (f : Nat), hold f (s f) l = dof s l f
  | [], _, _ => rfl
  | r :: l, s, f => by
    rw [hold, dof, ← hold_dof l (one s r) f]
    congr 1
    by_cases h : r.file = f
    · subst h; rw [if_pos rfl, one, upd_same]
    · rw [if_neg h, one, upd_other (Ne.symm h)]

theorem hold_app : ∀ (l m : List Rw) (b : List Int) (f : Nat), hold f b (l ++ m) = hold f (hold f b l) m
  | [], _, _, _ => rfl
  | r :: l, m, b, f => hold_app l m _ f

theorem hold_snoc (l : List Rw) (r : Rw) (b : List Int) (f : Nat) : hold f b (l ++ [r]) = if r.file = f then wth (hold f b l) r else hold f b l := hold_app l [r] b f

/-- A raw step that fits what stands ahead of it. -/
def fits (s : Nat → List Int) (r : Rw) : Prop := r.file < 4 ∧ (r.cut = true → r.to ≤ (s r.file).length) ∧ (r.cut = false → 1 ≤ r.bytes.length ∧ r.bytes.length ≤ 64)

def valid (s : Nat → List Int) : List Rw → Prop
  | [] => True
  | r :: l => fits s r ∧ valid (one s r) l

theorem valid_app : ∀ (l m : List Rw) (s : Nat → List Int), valid s (l ++ m) ↔ valid s l ∧ valid (dof s l) m
  | [], _, _ => by simp [valid, dof]
  | r :: l, m, s => by simp [valid, dof, valid_app l m, and_assoc]

theorem valid_at {l : List Rw} {s : Nat → List Int} (h : valid s l) {k : Nat} {r : Rw} (hk : l[k]? = some r) : fits (dof s (l.take k)) r := by
  obtain ⟨hlt, rfl⟩ := List.getElem?_eq_some_iff.1 hk
  rw [← List.take_append_drop k l, valid_app, List.drop_eq_getElem_cons hlt] at h
  exact h.2.1

/-- How many bytes are pending. -/
def bulk : List Rw → Nat
  | [] => 0
  | r :: l => r.bytes.length + bulk l

theorem bulk_app : ∀ (l m : List Rw), bulk (l ++ m) = bulk l + bulk m
  | [], _ => by simp [bulk]
  | r :: l, m => by simp [bulk, bulk_app l m]; omega

theorem wth_len (b : List Int) (r : Rw) : (wth b r).length ≤ b.length + r.bytes.length := by
  unfold wth
  split
  · rw [List.length_take]; omega
  · simp

theorem hold_len : ∀ (l : List Rw) (b : List Int) (f : Nat), (hold f b l).length ≤ b.length + bulk l
  | [], _, _ => by simp [hold, bulk]
  | r :: l, b, f => by
    have h1 := hold_len l (if r.file = f then wth b r else b) f
    have h2 := wth_len b r
    simp only [hold, bulk]
    split at h1 <;> simp_all <;> omega

/-- No file, nor what is pending, has more than t bytes in all; no more than u raw steps. -/
def Sz (t u : Nat) (st : Ds) : Prop := (∀ f, (st.sure f).length + bulk st.wait ≤ t) ∧ st.wait.length ≤ u ∧ st.count ≤ u

def Ok (st : Ds) : Prop := valid st.sure st.wait

/-- One raw step is allowed, or the disk goes off. -/
def off (st : Ds) : Bool := st.has && st.left == 0
def burn (st : Ds) : Ds := { st with left := if st.has then st.left - 1 else st.left, count := st.count + 1 }
def dark (st : Ds) : Ds := { st with on := false }
def push (st : Ds) (r : Rw) : Ds := { st with wait := st.wait ++ [r] }

/-- The raw writes of a Write, piece by piece (n: as many bytes at the most). -/
def wrt (file : Nat) : Nat → Ds → List Int → Int × Ds
  | 0, st, _ => (0, st)
  | n + 1, st, bs => if bs = [] then (0, st) else if off st then (6, dark st) else wrt file n (push (burn st) ⟨file, false, 0, bs.take 64⟩) (bs.drop 64)

def inF (file : Int) : Bool := decide (0 ≤ file) && decide (file < 4)

def write (st : Ds) (file : Int) (bs : List Int) : Int × Ds := if st.on = false then (6, st) else if inF file = false then (2, st) else wrt file.toNat bs.length st bs
def cutD (st : Ds) (file len : Int) : Int × Ds := if st.on = false then (6, st) else if inF file = false then (2, st) else if len < 0 ∨ (hold file.toNat (st.sure file.toNat) st.wait).length < len then (2, st) else if off st then (6, dark st) else (0, push (burn st) ⟨file.toNat, true, len.toNat, []⟩)
def flush (st : Ds) : Ds := { st with sure := dof st.sure st.wait, wait := [] }
def sync (st : Ds) : Int × Ds := if st.on = false then (6, st) else if off st then (6, dark st) else (0, flush (burn st))
def fuse (st : Ds) (n : Int) : Int × Ds := if st.on = false then (6, st) else if n < 0 then (2, st) else (0, { st with has := true, left := n.toNat })
def safe (st : Ds) : Int × Ds := if st.on = false then (6, st) else (0, { st with has := false })
def pull (st : Ds) : Int × Ds := if st.on = false then (6, st) else (0, dark st)

/-- What stands of the steps when it is on again with k and t. -/
def kept (st : Ds) (k t : Nat) : Nat → List Int :=
  match st.wait[k]? with
  | some r => if r.cut then dof st.sure (st.wait.take k) else one (dof st.sure (st.wait.take k)) ⟨r.file, false, 0, r.bytes.take (min t (r.bytes.length - 1))⟩
  | none => dof st.sure (st.wait.take k)
def start (st : Ds) (k t : Int) : Int × Ds := if st.on = true ∨ k < 0 ∨ t < 0 then (2, st) else (0, { st with sure := kept st k.toNat t.toNat, wait := [], has := false, on := true })

def new : Ds := ⟨fun _ => [], [], true, false, 0, 0⟩

end Go.Proofs.Yteklbnonikccaaa.Dm
