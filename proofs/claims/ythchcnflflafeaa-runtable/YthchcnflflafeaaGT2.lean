/- Texts of one layer, one behind the other. -/
import Derived.Test.YthchcnflflafeaaG7
import Derived.Test.YthchcnflflafeaaG10
import Derived.Test.YthchcnflflafeaaGT1
import Derived.Test.YthchcnflflafeaaG9
import Derived.Test.YthchcnflflafeaaG21
/- Rows of lists of ops in memory. -/
namespace Go.Proofs.Ythchcnflflafeaa
open Go.RowKit
open Bm (Ov)
set_option linter.unusedVariables false

/-- A list of a row of lists: its value, its ops. -/
structure Rw where
  v : Value
  l : List Ov

def rwc (a : Rw) : List Value := [a.v]
theorem rwc_len (a : Rw) : (rwc a).length = 1 := rfl

/-- A slice value that reads as the lists r. -/
def IsLL (w : World) (v : Value) (r : List Rw) : Prop := RowG rwc w v r ∧ ∀ a ∈ r, IsO w a.v a.l
def FitL (r : List Rw) : Prop := ∀ a ∈ r, FitO a.l

theorem IsLL.below {w w' : World} {v : Value} {r : List Rw} (h : IsLL w v r) (hb : Below w.heap.size w w') : IsLL w' v r := ⟨h.1.below hb, fun a ha => (h.2 a ha).below hb⟩

theorem IsLL.full {w : World} {v : Value} {r : List Rw} (h : IsLL w v r) (hne : 0 < r.length) :
    ∃ b off cap, v = .slice (some ⟨b, off, none⟩) r.length cap ∧ r.length ≤ cap ∧ cap ≤ maxLen ∧ b < w.heap.size ∧ ∀ i a, r[i]? = some a → w.cell? ⟨b, off + i, none⟩ = some a.v := by
  obtain ⟨b, off, cap, h1, h2, h3, h4, h5⟩ := h.1.full rwc_len (by decide) hne
  refine ⟨b, off, cap, h1, h2, h3, h4, fun i a ha => ?_⟩
  have := h5 i a ha 0 a.v rfl
  simpa using this

end Go.Proofs.Ythchcnflflafeaa

/- The law's sorted: what a table of ops tells. -/
namespace Go.Proofs.Ythchcnflflafeaa
open Go.RowKit
open Bm (Ov)
set_option linter.unusedVariables false

def srt (l : List Ov) : List Ov := l.foldl (fun t o => Tm.aft t [o]) []

theorem srt_next {l : List Ov} {k : Nat} {o : Ov} (h : l[k]? = some o) : srt (l.take (k + 1)) = Tm.aft (srt (l.take k)) [o] := by
  have hk : k < l.length := by
    rcases Nat.lt_or_ge k l.length with h' | h'
    · exact h'
    · rw [List.getElem?_eq_none h'] at h
      simp at h
  have ho : l[k] = o := by rw [List.getElem?_eq_getElem hk] at h; simpa using h
  unfold srt
  rw [List.take_succ_eq_append_getElem hk, List.foldl_append, ho]
  rfl

theorem aft_one (t : List Ov) (o : Ov) : Tm.aft t [o] = if o.c = 0 then Tm.one t o else t := by
  unfold Tm.aft
  by_cases h : o.c = 0
  · rw [if_pos h, if_pos (Bm.first_all fun x hx => by rw [List.mem_singleton.1 hx]; exact h)]
    rfl
  · rw [if_neg h, if_neg (by rw [Bm.first_bad (List.mem_singleton.2 rfl) h]; decide)]

theorem srt_take (l : List Ov) : ∀ k, k ≤ l.length → Tm.Up (srt (l.take k)) ∧ (∀ o ∈ srt (l.take k), o.c = 0) ∧ (srt (l.take k)).length ≤ k
  | 0, _ => ⟨List.Pairwise.nil, fun o ho => by simp [srt] at ho, by simp [srt]⟩
  | k + 1, hk => by
    obtain ⟨h1, h2, h3⟩ := srt_take l k (by omega)
    obtain ⟨o, ho⟩ : ∃ o, l[k]? = some o := ⟨l[k], by rw [List.getElem?_eq_getElem]⟩
    rw [srt_next ho, aft_one]
    split
    · rename_i hc
      refine ⟨Tm.up_one o h1, fun x hx => ?_, Nat.le_trans (Tm.one_len _ _) (by omega)⟩
      rcases (Tm.mem_one o x h1).1 hx with rfl | ⟨hx, _⟩
      · exact hc
      · exact h2 x hx
    · exact ⟨h1, h2, by omega⟩

theorem srt_is (l : List Ov) : Tm.Up (srt l) ∧ (∀ o ∈ srt l, o.c = 0) ∧ (srt l).length ≤ l.length := by
  have := srt_take l l.length (Nat.le_refl _)
  rwa [List.take_length] at this

theorem srt_chk (l : List Ov) (hl : l.length ≤ 40) (n : Int) (h1 : 1 ≤ n) (h2 : n ≤ 1048576) : Rn.chk n n (srt l) = 0 := by
  obtain ⟨a, b, c⟩ := srt_is l
  exact Rn.chk_ok (by omega) ⟨h1, by omega, h2, Rn.may_of b a⟩

theorem slice_one {P : Program} {w : World} {b off n cap : Nat} {l : List Ov} {o : Ov} {i : Nat} {t : TypeId} (h : IsO w (.slice (some ⟨b, off, none⟩) n cap) l) (ht : P.underlying t = some (.slice (P.elem t))) (hs : ∀ wx, (sizeOf (P.elem t)).run P wx = .ok 3 wx) (hi : l[i]? = some o) :
    (∀ wx, (Instr.slice t (.slice (some ⟨b, off, none⟩) n cap) (some (.int .i64 i)) (some (.int .i64 (i + 1))) none).run P wx = .ok (.slice (some ⟨b, off + i * 3, none⟩) 1 (cap - i)) wx) ∧ IsO w (.slice (some ⟨b, off + i * 3, none⟩) 1 (cap - i)) [o] := by
  have hil : i < l.length := by
    rcases Nat.lt_or_ge i l.length with h' | h'
    · exact h'
    · rw [List.getElem?_eq_none h'] at hi
      simp at hi
  obtain ⟨ao, cp, hv, h1, h2⟩ := h.shape
  simp only [Value.slice.injEq] at hv
  obtain ⟨_, rfl, rfl⟩ := hv
  obtain ⟨b', off', cap', hv, _, _, _, hc⟩ := h.full (by omega)
  simp only [Value.slice.injEq, Option.some.injEq, Addr.mk.injEq, and_true, true_and] at hv
  obtain ⟨⟨rfl, rfl⟩, rfl⟩ := hv
  obtain ⟨c0, c1, c2⟩ := hc i o hi
  refine ⟨fun wx => ?_, .inr ⟨_, _, rfl, by simp; omega, by omega, fun j u hj => ?_⟩⟩
  · rw [run_slice_lh wx t (some ⟨b, off, none⟩) l.length cap ht .i64 .i64 _ _ (by omega) (by omega) (by omega), hs]
    have hne : ¬ cap = i := by omega
    simp [Result.andThen, sliced, hne, Addr.add]
  · match j, hj with
    | 0, hj => simp [ocells, ocell] at hj; subst hj; simpa [Addr.add] using c0
    | 1, hj => simp [ocells, ocell] at hj; subst hj; simpa [Addr.add] using c1
    | 2, hj => simp [ocells, ocell] at hj; subst hj; simpa [Addr.add] using c2
    | j + 3, hj => simp [ocells, ocell] at hj

set_option maxHeartbeats 2000000 in
theorem sorted_any (v : Value) (l : List Ov) (w : World) (h : IsO w v l) (hf : FitO l) (hl : l.length ≤ 100000) :
    Calls Try.prog 31 #[v] w fun E w' => ∃ u, E = .returned u ∧ OwnO 35 w.heap.size w' u (srt l) ∧ Below w.heap.size w w' := by
  obtain ⟨ao, cap, hv, hcap, hmax⟩ := h.shape
  subst hv
  have HF := hide hf
  go_enter Try.func31, Try.ntmps31
  go_wp2_with fail
  refine (tnewR_any w).mono ?_
  rintro E w1 ⟨rfl, D1, b1⟩
  have DH := hide D1
  have BH := hide b1
  have IH := hide h
  clear D1 b1 h hf
  go_wp2
  go_loopw [4] (fun iv wr => ∃ (k : Nat) (u : Value), k ≤ l.length ∧ iv = .int .i64 k ∧ Hid (Dt w.heap.size w.heap.size wr u (srt (l.take k))) ∧ Hid (Below w.heap.size w wr)) (fun iv _ => l.length - (intOf iv).toNat)
  case atStart => exact ⟨0, _, by omega, rfl, DH, BH⟩
  case round =>
    obtain ⟨k, u, hk, rfl, DR, BR⟩ := hrel
    by_cases hlt : k < l.length
    · obtain ⟨o, ho⟩ : ∃ o, l[k]? = some o := ⟨l[k], by rw [List.getElem?_eq_getElem]⟩
      obtain ⟨b, off, cp, hvv, _, _, hbw, _⟩ := IH.out.full (by omega)
      simp only [Value.slice.injEq, true_and] at hvv
      obtain ⟨rfl, rfl⟩ := hvv
      obtain ⟨hsl, iso⟩ := slice_one (IH.out.below BR.out) Try.elemO Try.sizeO ho
      have hlt' : (k : Int) < l.length := by omega
      obtain ⟨g1, g2, g3⟩ := srt_take l k hk
      have HA := hide (applyR_any w.heap.size w.heap.size wr u _ _ [o] DR.out g1 iso (fun _ b' hb' => by simp [Value.ownBlock] at hb'; omega) (fun x hx => by rw [List.mem_singleton.1 hx]; exact HF.out o (List.mem_of_getElem? ho)) (by simp; omega) BR.out.size)
      rw [← srt_next ho] at HA
      clear iso g1 g2 g3
      go_wp2_with fail
      refine HA.out.mono ?_
      rintro E w2 ⟨rfl, ⟨u2, D2, _⟩, o2⟩
      have DH2 := hide D2
      have BH2 := hide (BR.out.trans (o2.below (fun g hg => by omega) BR.out.size))
      clear D2 o2 HA
      go_wp2
      go_roundw
      case rel => exact ⟨k + 1, u2, by omega, by go_num, DH2, BH2⟩
      case measure => simp [intOf]; omega
    · obtain rfl : k = l.length := by omega
      rw [List.take_length] at DR
      have HAL := hide (allR_any w.heap.size w.heap.size wr u _ DR.out (by have := (srt_is l).2.2; omega))
      go_wp2_with fail
      refine HAL.out.mono ?_
      rintro E w2 ⟨x, rfl, ox, bx⟩
      have OX := hide (ox.rebase (base' := w.heap.size) BR.out.size)
      have BX := hide (BR.out.trans (bx.mono BR.out.size))
      clear ox bx HAL
      go_wp2
      go_ret
      exact ⟨_, rfl, OX.out, BX.out⟩

end Go.Proofs.Ythchcnflflafeaa

/- Runs of a statement's own, and rows of runs beside them. -/
namespace Go.Proofs.Ythchcnflflafeaa
open Go.RowKit
set_option linter.unusedVariables false

/-- Runs that are the statement's own. -/
structure KW (w wr : World) (p q : Nat) (F : Nat → Prop) (s : Rl.Rs) : Prop where
  rw : RW p q F wr s
  fb : ∀ g, F g → w.heap.size ≤ g
  bel : Below w.heap.size w wr

/-- What a call leaves. -/
def KS (w wr w' : World) (p q : Nat) (F : Nat → Prop) (s' : Rl.Rs) : Prop := ∃ F', KW w w' p q F' s' ∧ Out F wr w' ∧ ∀ g, F' g → F g ∨ wr.heap.size ≤ g

/-- A row of runs beside them. -/
def Kp (w wr : World) (F : Nat → Prop) (v : Value) (r : List Cw) (l : List Cm.Cv) : Prop := Rq w.heap.size wr l v r ∧ ∀ g, QB v r g → ¬ F g

section
variable {w wr w' w2 : World} {p q : Nat} {F F' : Nat → Prop} {s s' : Rl.Rs} {v : Value} {r : List Cw} {l : List Cm.Cv}

theorem Kp.out (h : Kp w wr F v r l) (ho : Out F wr w') (hn : ∀ g, F' g → F g ∨ wr.heap.size ≤ g) : Kp w w' F' v r l := by
  refine ⟨h.1.out ho h.2, fun g hg hf => ?_⟩
  rcases hn g hf with e | e
  · exact h.2 g hg e
  · have := h.1.lt g hg
    omega

theorem Kp.below (h : Kp w wr F v r l) (hb : Below wr.heap.size wr w') : Kp w w' F v r l := ⟨h.1.below hb, h.2⟩

theorem KW.below (h : KW w wr p q F s) (hb : Below wr.heap.size wr w') : KW w w' p q F s := ⟨h.rw.below hb, h.fb, h.bel.trans (hb.mono h.bel.size)⟩

theorem KW.step (h : KW w wr p q F s) (k : RStep p q F wr w' s') : KS w wr w' p q F s' := by
  obtain ⟨F2, h1, h2, h3⟩ := k
  have hs := h.bel.size
  refine ⟨F2, ⟨h1, fun g hg => ?_, h.bel.trans (h2.below h.fb h.bel.size)⟩, h2, h3⟩
  rcases h3 g hg with e | e
  · exact h.fb g e
  · omega

theorem KW.disk (h : KW w wr p q F s) {f : FuncId} {args : Array Value} {st' : Dm.Ds} {e : Int} (hc : ∀ F1, Pk q F1 wr s.d → Calls Try.prog f args wr fun E w' => E = .returned (.int .i64 e) ∧ PStep q F1 wr w' st') :
    Calls Try.prog f args wr fun E w' => E = .returned (.int .i64 e) ∧ KS w wr w' p q F ⟨st', s.l, s.bk⟩ := by
  obtain ⟨F1, G1, h1, h2, hF⟩ := id h.rw
  refine (hc F1 h1).mono ?_
  rintro E w' ⟨rfl, PS⟩
  refine ⟨rfl, h.step ?_⟩
  obtain ⟨F2, k1, k2, k3, k4⟩ := RW.disk h1 h2 PS
  rw [hF]
  refine ⟨_, ⟨F2, G1, k1, k2, rfl⟩, k3.mono fun g hg => .inl (.inl hg), ?_⟩
  rintro g (e | e)
  · rcases k4 g e with e | e
    · exact .inl (.inl e)
    · exact .inr e
  · exact .inl (.inr e)

theorem KW.pk (h : KW w wr p q F s) : ∃ F1, Pk q F1 wr s.d := by
  obtain ⟨F1, G1, h1, h2, hF⟩ := h.rw
  exact ⟨F1, h1⟩

theorem KW.pulled (h : KW w wr p q F s) (ho : s.d.on = true) :
    Calls Try.prog 33 #[.pointer (some ⟨q, 0, none⟩)] wr fun E w' => E = .returned (.int .i64 0) ∧ KS w wr w' p q F ⟨Dm.dark s.d, s.l, s.bk⟩ :=
  h.disk fun F1 h1 => by
    have := pull_any q F1 wr s.d h1
    have e : Dm.pull s.d = (0, Dm.dark s.d) := by unfold Dm.pull; rw [if_neg (by simp [ho])]
    rw [e] at this
    exact this

theorem KW.fused (h : KW w wr p q F s) (n : Int) (hn : 0 ≤ n) (ho : s.d.on = true) :
    Calls Try.prog 36 #[.pointer (some ⟨q, 0, none⟩), .int .i64 n] wr fun E w' => E = .returned (.int .i64 0) ∧ KS w wr w' p q F ⟨{ s.d with has := true, left := n.toNat }, s.l, s.bk⟩ :=
  h.disk fun F1 h1 => by
    have := fuse_any q F1 wr s.d n h1
    have e : Dm.fuse s.d n = (0, { s.d with has := true, left := n.toNat }) := by unfold Dm.fuse; rw [if_neg (by simp [ho]), if_neg (by omega)]
    rw [e] at this
    exact this

/-- What a start leaves. -/
structure RStd (st' : Dm.Ds) (bs : List Int) : Prop where
  on : st'.on = true
  has : st'.has = false
  hld : Rl.hld st' = bs
  big : Big 5000000 60000 st'

theorem rstart_is {st : Dm.Ds} {k t : Int} (h : st.on = false) (hk : 0 ≤ k) (ht : 0 ≤ t) : Dm.start st k t = (0, { st with sure := Dm.kept st k.toNat t.toNat, wait := [], has := false, on := true }) := by
  unfold Dm.start
  rw [if_neg (by rw [h]; simp; omega)]

theorem KW.started (h : KW w wr p q F s) (k t : Int) (hk : 0 ≤ k) (ht : 0 ≤ t) (ht2 : t ≤ 9223372036854775807) (ho : s.d.on = false) (hb : Big 5000000 60000 s.d) :
    Calls Try.prog 34 #[.pointer (some ⟨q, 0, none⟩), .int .i64 k, .int .i64 t] wr fun E w' => E = .returned (.int .i64 0) ∧ ∃ st', KS w wr w' p q F ⟨st', s.l, s.bk⟩ ∧ RStd st' (Dm.kept s.d k.toNat t.toNat 2) := by
  have e := rstart_is ho hk ht
  have hc := h.disk (f := 34) (args := #[.pointer (some ⟨q, 0, none⟩), .int .i64 k, .int .i64 t]) (e := 0) (st' := (Dm.start s.d k t).2) fun F1 h1 => by
    have := start_any q F1 wr s.d k t h1 ht2 (fun f => Nat.le_trans (hb.1.1 f) (by decide)) (Nat.le_trans hb.1.2.1 (by decide))
    rw [e] at this ⊢
    exact this
  refine hc.mono ?_
  rintro E w' ⟨rfl, K⟩
  refine ⟨rfl, _, K, ?_, ?_, ?_, big_start hb k t⟩
  · rw [e]
  · rw [e]
  · rw [e]; rfl

/-- Open of its disk: other runs. -/
theorem KW.opened (h : KW w wr p q F s) (hb : Big 100000000 800000 s.d) (ho : s.d.on = true) (hh : s.d.has = false) :
    Calls Try.prog 9 #[.pointer (some ⟨q, 0, none⟩)] wr fun E w' => ∃ p' F' m, E = .returned (.tuple #[.pointer (some ⟨p', 0, none⟩), .int .i64 0]) ∧ KW w w' p' q F' ⟨ropD s.d m, m, false⟩ ∧ Out F wr w' ∧ (∀ g, F' g → F g ∨ wr.heap.size ≤ g) ∧ Hid (Rl.Lg 0 (Rl.hld s.d) m) := by
  obtain ⟨F1, G1, h1, h2, hF⟩ := id h.rw
  refine (hopen_any q F1 wr s.d h1 hb).mono ?_
  rintro E w' ⟨m, LG, PS, hc⟩
  have h0 : ropE s.d m = 0 := by
    unfold ropE
    rw [if_neg (by rw [ho]; decide)]
    exact (Rl.trm_is ho hh LG.out).1
  rcases hc with ⟨hn, _⟩ | ⟨_, p', G', rfl, hw, hgn⟩
  · exact absurd h0 hn
  obtain ⟨F2, k1, k2, k3⟩ := PS
  have o1 : Out F wr w' := k2.mono fun g hg => .inl (by rw [hF]; exact .inl hg)
  have hs := h.bel.size
  have hnew : ∀ g, (F2 g ∨ G' g) → F g ∨ wr.heap.size ≤ g := fun g hg => by
    rcases hg with e | e
    · rcases k3 g e with e | e
      · exact .inl (by rw [hF]; exact .inl e)
      · exact .inr e
    · exact .inr (hgn g e)
  refine ⟨p', _, m, rfl, ⟨⟨F2, G', k1, hw, rfl⟩, fun g hg => ?_, h.bel.trans (o1.below h.fb h.bel.size)⟩, o1, hnew, LG⟩
  rcases hnew g hg with e | e
  · exact h.fb g e
  · omega

/-- A Flush. -/
theorem KW.flushed (h : KW w wr p q F s) (hs : RBig s) (c : Cw) (hc : ∃ b, OwnO 35 b wr c.v c.l ∧ ∀ g, F g → g < b) (hf : FitO c.l) (h64 : In64 c.e ∧ In64 c.n) (hl : c.l.length * 40 ≤ 140737488351232) :
    Calls Try.prog 11 #[.pointer (some ⟨p, 0, none⟩), .agg #[.int .i64 c.e, .int .i64 c.n, c.v]] wr fun E w' => E = .returned (.int .i64 (Rl.flu s c.c).1) ∧ KS w wr w' p q F (Rl.flu s c.c).2 := by
  obtain ⟨b, ho, hfb⟩ := hc
  have := hflush_any p q F wr s c h.rw hs ho.is hf h64 hl (fun _ g hg hf => by
    have h1 := (OwnO.block ho g hg).1
    have h2 := hfb g hf
    omega)
  unfold cmv at this
  refine this.mono ?_
  rintro E w' ⟨rfl, k⟩
  exact ⟨rfl, h.step k⟩

end

end Go.Proofs.Ythchcnflflafeaa

/- A row of runs, copied, and one more. -/
namespace Go.Proofs.Ythchcnflflafeaa
open Go.RowKit
set_option linter.unusedVariables false

theorem kp_app1 {w W W' : World} {F : Nat → Prop} {v v0 : Value} {r : List Cw} {l : List Cm.Cv} (ty : TypeId) (h : Kp w W F v r l) (hb : Below W.heap.size W W') (ho : OwnR 32 W.heap.size W' v0 []) (hl : r.length ≤ 1000) :
    ∃ v1 w1, (Builtin.append_ #[47, 47] ty #[v0, v]).run Try.prog W' = .ok v1 w1 ∧ Below W.heap.size W w1 ∧ (∃ a k, v1 = .slice a r.length k) ∧ OwnR 32 W.heap.size w1 v1 r ∧ W'.grownBy w1 v0.ownBlock := by
  have hone : ∀ d ∈ r, d.v.oneCell' = true := fun d hd => (h.1.cop d hd).is.one
  obtain ⟨v1, w1, hr1, own1, gr1, at1⟩ := run_append_coms_at (P := Try.prog) (w := W') 47 ty 32 W.heap.size Try.underlying47 Try.info32 _ [] ho v r (h.1.row.row.below hb) hone (by simp; omega) hb.size
  rw [List.nil_append] at own1
  refine ⟨v1, w1, hr1, hb.grown gr1 hb.size (fun k hk => (World.ownsRow.lt ho k hk).1), ?_, own1, gr1⟩
  obtain ⟨a1, k1, h1, _⟩ := own1.row.shape
  exact ⟨a1, k1, h1⟩

theorem kp_app2 {w W W' : World} {F : Nat → Prop} {v v1 vx : Value} {r : List Cw} {l : List Cm.Cv} {c : Cw} (ty : TypeId) (h : Kp w W F v r l) (hc : OwnO 35 w.heap.size W c.v c.l) (hcF : ∀ g, c.v.ownBlock = some g → ¬ F g) (hg : Rl.Good 0 (l ++ [c.c])) (hF : ∀ g, F g → g < W.heap.size) (hw : w.heap.size ≤ W.heap.size) (hl : r.length ≤ 1000) (hb : Below W.heap.size W W') (ho : OwnR 32 W.heap.size W' v1 r) (hx : RowC W' vx [c]) :
    ∃ v2 w2, (Builtin.append_ #[47, 47] ty #[v1, vx]).run Try.prog W' = .ok v2 w2 ∧ Below W.heap.size W w2 ∧ Kp w w2 F v2 (r ++ [c]) (l ++ [c.c]) ∧ ∃ a k, v2 = .slice a (r.length + 1) k := by
  have hone2 : ∀ d ∈ [c], d.v.oneCell' = true := fun d hd => by rw [List.mem_singleton.1 hd]; exact hc.is.one
  obtain ⟨v2, w2, hr2, own2, gr2, at2⟩ := run_append_coms_at (P := Try.prog) (w := W') 47 ty 32 W.heap.size Try.underlying47 Try.info32 _ r ho _ [c] hx hone2 (by simp; omega) hb.size
  have bel2 : Below W.heap.size W w2 := hb.grown gr2 hb.size (fun k hk => (World.ownsRow.lt ho k hk).1)
  refine ⟨v2, w2, hr2, bel2, ⟨⟨row_rebase own2 hw, fun d hd => ?_, by unfold cvs; rw [List.map_append, ← h.1.is]; rfl, hg⟩, ?_⟩, ?_⟩
  · rcases List.mem_append.1 hd with hd | hd
    · exact (h.1.cop d hd).below bel2
    · rw [List.mem_singleton.1 hd]
      exact hc.below bel2
  · rintro g (e | ⟨d, hd, e⟩) hf
    · have h1 := (World.ownsRow.lt own2 g e).1
      have h2 := hF g hf
      omega
    · rcases List.mem_append.1 hd with hd | hd
      · exact h.2 g (.inr ⟨d, hd, e⟩) hf
      · rw [List.mem_singleton.1 hd] at e
        exact hcF g e hf
  · obtain ⟨a1, k1, h1, _⟩ := own2.row.shape
    exact ⟨a1, k1, by rw [h1, List.length_append]; rfl⟩

/-- The row is copied, and one more; in three orders. -/
def Ext (W : World) (v : Value) (n : Nat) (c : Cw) (G : Value → World → Prop) : Prop :=
  (∃ V, W.alloc (.cells #[] 32) = V ∧ Below W.heap.size W V ∧
    (∃ v1 w1, (Builtin.append_ #[47, 47] 47 #[.slice (some ⟨W.heap.size, 0, none⟩) 0 0, v]).run Try.prog V = .ok v1 w1 ∧ Below W.heap.size W w1 ∧ (∃ a k, v1 = .slice a n k) ∧
      ∃ U, w1.alloc (.cells #[.int .i64 c.e, .int .i64 c.n, c.v] 32) = U ∧ Below W.heap.size W U ∧ ∃ v2 w2, (Builtin.append_ #[47, 47] 47 #[v1, .slice (some ⟨w1.heap.size, 0, none⟩) 1 1]).run Try.prog U = .ok v2 w2 ∧ Below W.heap.size W w2 ∧ G v2 w2) ∧
    (∃ U, V.alloc (.cells #[.int .i64 c.e, .int .i64 c.n, c.v] 32) = U ∧ Below W.heap.size W U ∧ ∃ v1 w1, (Builtin.append_ #[47, 47] 47 #[.slice (some ⟨W.heap.size, 0, none⟩) 0 0, v]).run Try.prog U = .ok v1 w1 ∧ Below W.heap.size W w1 ∧ (∃ a k, v1 = .slice a n k) ∧
      ∃ v2 w2, (Builtin.append_ #[47, 47] 47 #[v1, .slice (some ⟨V.heap.size, 0, none⟩) 1 1]).run Try.prog w1 = .ok v2 w2 ∧ Below W.heap.size W w2 ∧ G v2 w2)) ∧
  (∃ U, W.alloc (.cells #[.int .i64 c.e, .int .i64 c.n, c.v] 32) = U ∧ Below W.heap.size W U ∧ ∃ V, U.alloc (.cells #[] 32) = V ∧ Below W.heap.size W V ∧
    ∃ v1 w1, (Builtin.append_ #[47, 47] 47 #[.slice (some ⟨U.heap.size, 0, none⟩) 0 0, v]).run Try.prog V = .ok v1 w1 ∧ Below W.heap.size W w1 ∧ (∃ a k, v1 = .slice a n k) ∧
      ∃ v2 w2, (Builtin.append_ #[47, 47] 47 #[v1, .slice (some ⟨W.heap.size, 0, none⟩) 1 1]).run Try.prog w1 = .ok v2 w2 ∧ Below W.heap.size W w2 ∧ G v2 w2)

theorem kp_ext {w W : World} {F : Nat → Prop} {v : Value} {r : List Cw} {l : List Cm.Cv} {c : Cw} (h : Kp w W F v r l) (hc : OwnO 35 w.heap.size W c.v c.l) (hcF : ∀ g, c.v.ownBlock = some g → ¬ F g) (hg : Rl.Good 0 (l ++ [c.c])) (hF : ∀ g, F g → g < W.heap.size) (hw : w.heap.size ≤ W.heap.size) (hl : r.length ≤ 1000) :
    Ext W v r.length c fun v2 w2 => Kp w w2 F v2 (r ++ [c]) (l ++ [c.c]) ∧ ∃ a k, v2 = .slice a (r.length + 1) k := by
  constructor
  · obtain ⟨V, hV, szV, belV, ownV⟩ := coms_step 32 W #[] 0 [] rfl rfl (by simp [maxLen])
    refine ⟨V, hV, belV, ?_, ?_⟩
    · obtain ⟨v1, w1, hr1, bel1, sh1, own1, gr1⟩ := kp_app1 47 h belV ownV hl
      obtain ⟨U, hU, szU, belU, ownU⟩ := coms_step 32 w1 #[.int .i64 c.e, .int .i64 c.n, c.v] 1 [c] rfl rfl (by simp [maxLen])
      have bU := bel1.trans (belU.mono bel1.size)
      obtain ⟨v2, w2, hr2, bel2, k2⟩ := kp_app2 47 h hc hcF hg hF hw hl bU (own1.below belU) ownU.row
      exact ⟨v1, w1, hr1, bel1, sh1, U, hU, bU, v2, w2, hr2, bel2, k2⟩
    · obtain ⟨U, hU, szU, belU, ownU⟩ := coms_step 32 V #[.int .i64 c.e, .int .i64 c.n, c.v] 1 [c] rfl rfl (by simp [maxLen])
      have bU := belV.trans (belU.mono belV.size)
      obtain ⟨v1, w1, hr1, bel1, sh1, own1, gr1⟩ := kp_app1 47 h bU (ownV.below belU) hl
      have hx : OwnR 32 V.heap.size w1 (.slice (some ⟨V.heap.size, 0, none⟩) 1 1) [c] := World.ownsRow.kept ownU gr1 (.inr (by simp [Value.ownBlock]; omega))
      obtain ⟨v2, w2, hr2, bel2, k2⟩ := kp_app2 47 h hc hcF hg hF hw hl bel1 own1 hx.row
      exact ⟨U, hU, bU, v1, w1, hr1, bel1, sh1, v2, w2, hr2, bel2, k2⟩
  · obtain ⟨U, hU, szU, belU, ownU⟩ := coms_step 32 W #[.int .i64 c.e, .int .i64 c.n, c.v] 1 [c] rfl rfl (by simp [maxLen])
    obtain ⟨V, hV, szV, belV, ownV⟩ := coms_step 32 U #[] 0 [] rfl rfl (by simp [maxLen])
    have bV := belU.trans (belV.mono belU.size)
    obtain ⟨v1, w1, hr1, bel1, sh1, own1, gr1⟩ := kp_app1 47 h bV (row_rebase ownV belU.size) hl
    have hx : OwnR 32 W.heap.size w1 (.slice (some ⟨W.heap.size, 0, none⟩) 1 1) [c] := World.ownsRow.kept (ownU.below belV) gr1 (.inr (by simp [Value.ownBlock]; omega))
    obtain ⟨v2, w2, hr2, bel2, k2⟩ := kp_app2 47 h hc hcF hg hF hw hl bel1 own1 hx.row
    exact ⟨U, hU, belU, V, hV, bV, v1, w1, hr1, bel1, sh1, v2, w2, hr2, bel2, k2⟩

end Go.Proofs.Ythchcnflflafeaa
