/- Texts of one layer, one behind the other. -/
import Derived.Test.YthmecljkackmbaaGreatProg
import Derived.Test.YthmecljkackmbaaGreatG6
import Derived.Test.YthmecljkackmbaaGreatG7
import Derived.Test.YthmecljkackmbaaGreatG10
import Derived.Test.YthmecljkackmbaaGreatGK6
/- The contract of Pick. -/
namespace Go.Proofs.YthmecljkackmbaaGreat
open Go.RowKit
set_option linter.unusedVariables false

set_option maxHeartbeats 400000 in
theorem pick_any (x n : Int) (w : World) (hn : 0 < n) (hn2 : n < 9223372036854775808) (hx : -9223372036854775808 ≤ x) (hx2 : x < 9223372036854775808) :
    Calls Tryz.prog 28 #[.int .i64 x, .int .i64 n] w fun e w' => (∃ p : Nat, (p : Int) < n ∧ e = .returned (.int .i64 p)) ∧ w = w' := by
  have hnz : (n == 0) = false := by simp; omega
  have ht1 : x.tmod n < n := Int.tmod_lt_of_pos x hn
  have ht2 : -n < x.tmod n := Int.lt_tmod_of_pos x hn
  by_cases h : x.tmod n < 0
  · go_enter Tryz.func28, Tryz.ntmps28
    go_wp2
    go_ret
    exact ⟨⟨(x.tmod n + n).toNat, by omega, ret_i64 (by omega)⟩, rfl⟩
  · go_enter Tryz.func28, Tryz.ntmps28
    go_wp2
    go_ret
    exact ⟨⟨(x.tmod n).toNat, by omega, ret_i64 (by omega)⟩, rfl⟩

/-- An integer of 64 bits. -/
def I64 (z : Int) : Prop := -9223372036854775808 ≤ z ∧ z ≤ 9223372036854775807

def pk (x n : Int) : Int := if x.tmod n < 0 then x.tmod n + n else x.tmod n

theorem pk_lt (x n : Int) (hn : 0 < n) : 0 ≤ pk x n ∧ pk x n < n := by
  have ht1 : x.tmod n < n := Int.tmod_lt_of_pos x hn
  have ht2 : -n < x.tmod n := Int.lt_tmod_of_pos x hn
  unfold pk
  split <;> omega

set_option maxHeartbeats 400000 in
theorem pickx_any (x n : Int) (w : World) (hn : 0 < n) (hn2 : n < 9223372036854775808) (hx : I64 x) :
    Calls Tryz.prog 28 #[.int .i64 x, .int .i64 n] w fun e w' => e = .returned (.int .i64 (pk x n)) ∧ w = w' := by
  have hnz : (n == 0) = false := by simp; omega
  obtain ⟨hx1, hx2⟩ := hx
  have ht1 : x.tmod n < n := Int.tmod_lt_of_pos x hn
  have ht2 : -n < x.tmod n := Int.lt_tmod_of_pos x hn
  by_cases h : x.tmod n < 0
  · have e : pk x n = x.tmod n + n := by simp [pk, h]
    rw [e]
    clear e
    go_enter Tryz.func28, Tryz.ntmps28
    go_wp2
    go_ret
    exact ⟨ret_i64 (by omega), rfl⟩
  · have e : pk x n = x.tmod n := by simp [pk, h]
    rw [e]
    clear e
    go_enter Tryz.func28, Tryz.ntmps28
    go_wp2
    go_ret
    exact ⟨ret_i64 (by omega), rfl⟩

end Go.Proofs.YthmecljkackmbaaGreat

/- Rows of lists of ops in memory. -/
namespace Go.Proofs.YthmecljkackmbaaGreat
open Go.RowKit
open Bm (Ov)
set_option linter.unusedVariables false

/-- A list of a row of lists: its value, its ops. -/
structure Rw where
  v : Value
  l : List Ov

def rwc (a : Rw) : List Value := [a.v]
theorem rwc_len (a : Rw) : (rwc a).length = 1 := rfl

/-- A slice value that reads as the lists r. -/
def IsLL (w : World) (v : Value) (r : List Rw) : Prop := RowG rwc w v r ∧ ∀ a ∈ r, IsO w a.v a.l
def FitL (r : List Rw) : Prop := ∀ a ∈ r, FitO a.l

theorem IsLL.below {w w' : World} {v : Value} {r : List Rw} (h : IsLL w v r) (hb : Below w.heap.size w w') : IsLL w' v r := ⟨h.1.below hb, fun a ha => (h.2 a ha).below hb⟩

theorem IsLL.full {w : World} {v : Value} {r : List Rw} (h : IsLL w v r) (hne : 0 < r.length) :
    ∃ b off cap, v = .slice (some ⟨b, off, none⟩) r.length cap ∧ r.length ≤ cap ∧ cap ≤ maxLen ∧ b < w.heap.size ∧ ∀ i a, r[i]? = some a → w.cell? ⟨b, off + i, none⟩ = some a.v := by
  obtain ⟨b, off, cap, h1, h2, h3, h4, h5⟩ := h.1.full rwc_len (by decide) hne
  refine ⟨b, off, cap, h1, h2, h3, h4, fun i a ha => ?_⟩
  have := h5 i a ha 0 a.v rfl
  simpa using this

end Go.Proofs.YthmecljkackmbaaGreat

/- A store and the log that went into it; a row of commits beside it; its disk opened again. -/
namespace Go.Proofs.YthmecljkackmbaaGreat
open Go.RowKit
open Bm (Ov)
set_option linter.unusedVariables false

/-- A store on a disk that stays on, and all commits that it was given. -/
structure Ag (s : Sto.Ss) (la : List Cm.Cv) : Prop where
  ok : Sto.Ok s
  kin : ∃ al, Rl.Kin s.r al
  has : s.r.d.has = false
  few : la.length ≤ 128
  le : Cm.lastN 0 s.r.l ≤ la.length
  rest : s.l = la.drop (Cm.lastN 0 s.r.l).toNat
  fold : Sto.fold s = Tm.app [] (Rl.ops la)

theorem Ag.len {s : Sto.Ss} {la : List Cm.Cv} (h : Ag s la) : s.l.length = la.length - (Cm.lastN 0 s.r.l).toNat := by rw [h.rest, List.length_drop]

theorem Ag.fin {s : Sto.Ss} {la : List Cm.Cv} (h : Ag s la) : Sto.fin s = la.length := by
  have h1 := h.len
  have h2 := h.ok.bound.1
  have h3 := h.le
  unfold Sto.fin
  omega

theorem Ag.small {s : Sto.Ss} {la : List Cm.Cv} (h : Ag s la) : s.l.length ≤ 128 ∧ s.r.l.length ≤ 128 := by
  have h1 := h.len
  have h2 := (Rl.good_last h.ok.run).1
  have h3 := h.le
  have h4 := h.few
  omega

theorem Ag.new : Ag ⟨rs0, []⟩ [] := ⟨⟨trivial, trivial⟩, ⟨[], rnew_kin⟩, rfl, by decide, by decide, rfl, rfl⟩

theorem Ag.apl {s : Sto.Ss} {la : List Cm.Cv} (h : Ag s la) (c : Cm.Cv) (h0 : (Sto.apl s c).1 = 0) (hn : la.length < 128) : Ag (Sto.apl s c).2 (la ++ [c]) := by
  have ok := Sto.apl_ok h.ok c
  have e : Sto.apl s c = (0, ⟨s.r, s.l ++ [c]⟩) := by
    unfold Sto.apl at h0 ⊢
    split at h0
    · rename_i h1
      exact absurd h0 h1
    · rename_i h1
      rw [if_neg h1]
  rw [e] at ok ⊢
  have h3 := h.le
  have h4 := h.ok.bound.1
  refine ⟨ok, h.kin, h.has, by rw [List.length_append, List.length_singleton]; omega, ?_, ?_, ?_⟩
  · show Cm.lastN 0 s.r.l ≤ ((la ++ [c]).length : Nat)
    rw [List.length_append, List.length_singleton]
    omega
  · show s.l ++ [c] = (la ++ [c]).drop (Cm.lastN 0 s.r.l).toNat
    rw [List.drop_append_of_le_length (by omega), ← h.rest]
  · rw [Sto.fold_apl, h.fold, Rl.ops_snoc, Tm.app_app]

theorem Ag.flu {s : Sto.Ss} {la : List Cm.Cv} (h : Ag s la) (u : Int) : Ag (Sto.flu s u).2 la ∧ ((Sto.flu s u).1 = 0 ∨ (Sto.flu s u).1 = 2) := by
  obtain ⟨f1, f2, f3⟩ := Sto.flu_ok h.ok u
  have hf := h.fin
  by_cases h1 : u < Cm.lastN 0 s.r.l ∨ Sto.fin s < u
  · rw [sflu_arg h1]
    exact ⟨h, .inr rfl⟩
  by_cases h2 : u = Cm.lastN 0 s.r.l
  · rw [sflu_nil h2 (by omega)]
    exact ⟨h, .inl rfl⟩
  obtain ⟨al, hk⟩ := h.kin
  obtain ⟨g1, g2, g3, g4, g5⟩ := sflu_safe h.ok hk h.has u (by omega) (by omega) h.small.1
  have h0 := h.ok.bound.1
  refine ⟨⟨f1, ⟨_, g3⟩, g4, h.few, by rw [g5]; omega, ?_, f2.trans h.fold⟩, .inl g1⟩
  rw [g2, g5, h.rest, List.drop_drop]
  congr 1
  have h3 := h.le
  omega

section
variable {P : Program} {w : World} {ops : Array Oper} {rest : List Oper} {o : Oper} {a : Act} {Q : Exit → Act → World → Prop}

/-- 'append' to a row of commits, and where it lies then. -/
theorem wpList_append_comsA (hgd : o.guard = none) (s x : Operand) (t : TypeId)
    (ho : o.op = .call { callee := .builtin .append, args := #[s, x], argTypes := #[t, t] })
    (e : TypeId) (base : Nat) (ht : P.underlying t = some (.slice e)) (hinfo : (P.info? e).map (fun i => (i.zero, i.size, i.bytes)) = some (some (.agg #[.int .i64 0, .int .i64 0, .slice none 0 0]), 3, 40))
    (v : Value) (l : List Cw) (hs : a.eval s = v) (hown : OwnR e base w v l) (vx : Value) (m : List Cw) (hx : a.eval x = vx) (his : RowC w vx m) (hone : ∀ c ∈ m, c.v.oneCell' = true)
    (hlen : (l.length + m.length) * 40 ≤ 140737488355328) (hbase : base ≤ w.heap.size)
    (h : ∀ v' w', OwnR e base w' v' (l ++ m) → w.grownBy w' v.ownBlock → (v'.ownBlock = v.ownBlock ∨ v'.ownBlock = some w.heap.size) → wpList P ops Q rest (a.put o.dst v') w') : wpList P ops Q (o :: rest) a w := by
  obtain ⟨v', w', hr, h1, h2, h3⟩ := run_append_coms_at (P := P) (w := w) t o.type e base ht hinfo v l hown vx m his hone hlen hbase
  refine wpList_plain hgd fun _ hK => ?_
  unfold Oper.wp execOp
  simp only [ho, resolve, invoke, builtin, Sem.run_bind, Sem.run_pure, Result.andThen_ok, List.map_toArray, List.map_cons, List.map_nil, hs, hx, hr]
  exact hK _ _ (h v' w' h1 h2 h3)

end

/-- 'v[p:]' of commits, also where none is left. -/
theorem RowC.slice_le {P : Program} {w : World} {v : Value} {l : List Cw} (h : RowC w v l) {t : TypeId} (ht : P.underlying t = some (.slice (P.elem t))) (hs : ∀ wx, (sizeOf (P.elem t)).run P wx = .ok 3 wx) (p : Nat) (hp : p ≤ l.length) :
    ∃ vs, (∀ wx, (Instr.slice t v (some (.int .i64 p)) none none).run P wx = .ok vs wx) ∧ RowC w vs (l.drop p) := by
  by_cases hlt : p < l.length
  · exact h.slice_l ht hs p hlt
  · obtain rfl : p = l.length := by omega
    obtain ⟨ao, cap, rfl, hcap, hm⟩ := h.shape
    rw [List.drop_length]
    refine ⟨sliced ao l.length l.length cap 3, fun wx => ?_, ?_⟩
    · rw [run_slice_l wx t ao l.length cap ht .i64 _ (by omega) (by omega), hs]
      simp [Result.andThen]
    · unfold sliced
      cases ao with
      | none =>
        rcases h with ⟨hv, e⟩ | ⟨ad, cap', hv, _⟩
        · subst e
          simp at hv
          subst hv
          left
          simp
        · simp at hv
      | some ad =>
        right
        refine ⟨if cap = l.length then ad else ad.add (l.length * 3), cap - l.length, ?_, by simp, by omega, fun j u hj => by simp [ccells] at hj⟩
        by_cases hc : cap = l.length
        · simp [hc]
        · simp [hc]

/-- A row of commits beside a store. -/
def Lgr (w0 wr : World) (F : Nat → Prop) (v : Value) (rs : List Cw) : Prop := OwnR 55 w0.heap.size wr v rs ∧ ∀ b, v.ownBlock = some b → ¬ F b

theorem Lgr.nil (w0 wr : World) (F : Nat → Prop) : Lgr w0 wr F (.slice none 0 0) [] := ⟨OwnR.nil _ _ _, fun b hb => by simp [Value.ownBlock] at hb⟩
theorem Lgr.below {w0 wr w' : World} {F : Nat → Prop} {v : Value} {rs : List Cw} (h : Lgr w0 wr F v rs) (hb : Below wr.heap.size wr w') : Lgr w0 w' F v rs := ⟨h.1.below hb, h.2⟩
theorem Lgr.out {w0 wr w' : World} {F F' : Nat → Prop} {v : Value} {rs : List Cw} (h : Lgr w0 wr F v rs) (ho : Out F wr w') (hn : ∀ g, F' g → F g ∨ wr.heap.size ≤ g) : Lgr w0 w' F' v rs := by
  refine ⟨row_agree h.1 fun b hb => ho.block b (World.ownsRow.lt h.1 b hb).2 (h.2 b hb), fun b hb hf => ?_⟩
  rcases hn b hf with e | e
  · exact h.2 b hb e
  · have := (World.ownsRow.lt h.1 b hb).2
    omega

/-- What an append to it leaves of a store. -/
theorem Sn.grown {w wr w' : World} {ps p q : Nat} {F : Nat → Prop} {s : Sto.Ss} {v : Value} {rs : List Cw} (h : Sn w wr ps p q F s) (hl : Lgr w wr F v rs) (hg : wr.grownBy w' v.ownBlock) : Sn w w' ps p q F s := by
  refine ⟨h.sw.agree fun g hf => hg.block g (h.sw.lt g hf) fun e => hl.2 g e.symm hf, h.fb, h.bel.grown hg h.bel.size fun k hk => (World.ownsRow.lt hl.1 k hk).1⟩

/-- The disk of a store's runs is opened again. -/
theorem Sn.again {w wr : World} {ps p q : Nat} {F : Nat → Prop} {s : Sto.Ss} {al : List Cm.Cv} (h : Sn w wr ps p q F s) (hk : Rl.Kin s.r al) (hb : Big 100000000 800000 s.r.d) :
    Calls Tryz.prog 19 #[.pointer (some ⟨q, 0, none⟩)] wr fun E w' => ∃ p', E = .returned (.tuple #[.pointer (some ⟨p', 0, none⟩), .int .i64 0]) ∧ ∃ F1 F2, Sn w w' ps p q F1 s ∧ RW p' q F2 w' s.r ∧ Out F wr w' ∧ (∀ g, F1 g → F g ∨ wr.heap.size ≤ g) ∧ (∀ g, F2 g → w.heap.size ≤ g) := by
  obtain ⟨Fr, Gs, ⟨Fd, Gr, d1, d2, rfl⟩, k2, k3, ok, hF⟩ := id h.sw
  refine (hopen_any q Fd wr s.r.d d1 hb).mono ?_
  rintro E w' ⟨m, LG, PS, hc⟩
  have hh : Rl.hld s.r.d = Rl.lgb al := by
    unfold Rl.hld
    rw [hk.wait, ← hk.sure]
    rfl
  have hm : m = al := Rl.lg_one LG.out (by rw [hh]; exact Rl.lg_self hk.good)
  subst hm
  have ht : Rl.trm s.r.d (Rl.lgb m).length = (0, s.r.d) := by
    unfold Rl.trm
    rw [if_pos (by rw [hh])]
  have h0 : ropE s.r.d m = 0 := by
    unfold ropE
    rw [if_neg (by rw [hk.on]; decide), ht]
  have hd : ropD s.r.d m = s.r.d := by
    unfold ropD
    rw [if_neg (by rw [hk.on]; decide), ht]
  rw [hd] at PS
  rcases hc with ⟨hn, _⟩ | ⟨_, p', G', rfl, hw, hgn⟩
  · exact absurd h0 hn
  obtain ⟨F2, j1, j2, j3⟩ := PS
  have hz := h.bel.size
  have o1 : Out F wr w' := j2.mono fun g hg => .inl (by rw [hF]; exact .inl (.inl hg))
  have n2 : ∀ g, F2 g → F g ∨ wr.heap.size ≤ g := fun g hg => (j3 g hg).imp (fun e => by rw [hF]; exact .inl (.inl e)) id
  have rp : RW p q (fun g => F2 g ∨ Gr g) w' s.r := ⟨F2, Gr, j1, d2.out j2 (rk_pk d2 d1), rfl⟩
  have sk : Sk ps p Gs w' s.l := k2.out j2 fun g hg e => k3 g hg (.inl e)
  have n1 : ∀ g, ((F2 g ∨ Gr g) ∨ Gs g) → F g ∨ wr.heap.size ≤ g := by
    rintro g ((e | e) | e)
    · exact n2 g e
    · exact .inl (by rw [hF]; exact .inl (.inr e))
    · exact .inl (by rw [hF]; exact .inr e)
  have fb : ∀ g, F g ∨ wr.heap.size ≤ g → w.heap.size ≤ g := fun g hg => hg.elim (h.fb g) fun e => Nat.le_trans hz e
  refine ⟨p', rfl, _, _, ⟨⟨_, Gs, rp, sk, fun g hg hf => ?_, ok, rfl⟩, fun g hg => fb g (n1 g hg), h.bel.trans (o1.below h.fb hz)⟩, ⟨F2, G', j1, by rw [hk.l, hk.bk]; exact hw, rfl⟩, o1, n1, ?_⟩
  · rcases hf with e | e
    · rcases j3 g e with e | e
      · exact k3 g hg (.inl e)
      · have := k2.lt g hg
        omega
    · exact k3 g hg (.inr e)
  · rintro g (e | e)
    · exact fb g (n2 g e)
    · exact Nat.le_trans hz (hgn g e)

theorem apl_r (s : Sto.Ss) (c : Cm.Cv) : (Sto.apl s c).2.r = s.r := by
  unfold Sto.apl
  split <;> rfl

end Go.Proofs.YthmecljkackmbaaGreat
