/- Texts of one layer, one behind the other. -/
import Derived.Test.YtkpnkknolobioaaG16
import Derived.Test.YtkpnkknolobioaaG17
import Derived.Test.YtkpnkknolobioaaG8
import Derived.Deep.RegionHeld3
import Derived.Test.YtkpnkknolobioaaG13
import Derived.Test.YtkpnkknolobioaaG7
import Derived.Test.YtkpnkknolobioaaG15
/- Sections that were read; the document's Scan and Has (layer 19). -/
namespace Go.Proofs.Ytkpnkknolobioaa
open Go.RowKit
set_option linter.unusedVariables false

theorem Try.info24 : (Try.prog.info? 24).map (fun i => (i.zero, i.size, i.bytes)) = some (some (.agg #[.int .i64 0, .int .i64 0, .slice none 0 0]), 3, 40) := by kernel_rfl
theorem Try.elemSe : Try.prog.underlying 41 = some (.slice (Try.prog.elem 41)) := by kernel_rfl
theorem Try.sizeSe (wx : World) : (sizeOf (Try.prog.elem 41)).run Try.prog wx = .ok 3 wx := by kernel_rfl

/-- The blocks of a section. -/
def SwB (x : Sw) (g : Nat) : Prop := x.v.ownBlock = some g ∨ ∃ c ∈ x.rs, c.v.ownBlock = some g

/-- Sections in memory of their own. -/
structure OwnSe (b : Nat) (w : World) (v : Value) (l : List Sw) : Prop where
  r : OwnR 24 b w v (swc l)
  o : ∀ x ∈ l, ShS b w x.v x.rs
  i : ∀ x ∈ l, In64 x.e ∧ In64 x.f
  ap : ∀ (i j : Nat) (x y : Sw), i < j → l[i]? = some x → l[j]? = some y → ∀ g, SwB x g → ¬ SwB y g

theorem OwnSe.nil (b : Nat) (w : World) : OwnSe b w (.slice none 0 0) [] := ⟨OwnR.nil _ _ _, fun x hx => by simp at hx, fun x hx => by simp at hx, fun i j x y _ h => by simp at h⟩
theorem OwnSe.below {b : Nat} {w w' : World} {v : Value} {l : List Sw} (h : OwnSe b w v l) (hb : Below w.heap.size w w') : OwnSe b w' v l := ⟨h.r.below hb, fun x hx => (h.o x hx).below hb, h.i, h.ap⟩
theorem ShS.isC {b : Nat} {w : World} {v : Value} {cs : List Cw} (h : ShS b w v cs) : IsC w v cs := ⟨h.c.row, fun c hc => ⟨(h.o c hc).is, h.i c hc⟩⟩
theorem OwnSe.is {b : Nat} {w : World} {v : Value} {l : List Sw} (h : OwnSe b w v l) : IsSe w v l := ⟨h.r.row, fun x hx => ⟨(h.o x hx).isC, h.i x hx⟩⟩
theorem ShS.lt {b : Nat} {w : World} {x : Sw} (h : ShS b w x.v x.rs) : ∀ g, SwB x g → b ≤ g ∧ g < w.heap.size := by
  rintro g (hg | ⟨c, hc, hg⟩)
  · exact World.ownsRow.lt h.c g hg
  · exact World.ownsRow.lt (h.o c hc) g hg
theorem ShS.keepT {b e' : Nat} {w w' : World} {v : Value} {cs : List Cw} (h : ShS b w v cs) (k : KeepT e' w w') (n1 : 32 ≠ e') (n2 : 66 ≠ e') : ShS b w' v cs := ⟨row_keepT h.c k n1, fun c hc => row_keepT (h.o c hc) k n2, h.i, h.ap, h.f⟩

theorem swc_snoc (l : List Sw) (x : Sw) : swc (l ++ [x]) = swc l ++ [x.c] := by simp [swc]
theorem sws_snoc (l : List Sw) (x : Sw) : sws (l ++ [x]) = sws l ++ [x.s] := by simp [sws]

/-- A section more. -/
theorem OwnSe.pushG {b : Nat} {w w6 : World} {v : Value} {l : List Sw} (h : OwnSe b w v l) (hbw : b ≤ w.heap.size) (hb : Below w.heap.size w w6) (x : Sw) (hx : ShS w.heap.size w6 x.v x.rs) (hi : In64 x.e ∧ In64 x.f) (hl : l.length ≤ 1000000000) :
    ∃ V, w6.alloc (.cells #[.int .i64 x.e, .int .i64 x.f, x.v] 24) = V ∧ Below w6.heap.size w6 V ∧ V.heap.size = w6.heap.size + 1 ∧ ∀ ty, ∃ v2 w2, (Builtin.append_ #[41, 41] ty #[v, .slice (some ⟨w6.heap.size, 0, none⟩) 1 1]).run Try.prog V = .ok v2 w2 ∧ OwnSe b w2 v2 (l ++ [x]) ∧ (Below b w6 w2 ∧ V.grownBy w2 v.ownBlock) ∧ ∃ a n k, v2 = .slice a n k := by
  obtain ⟨V, hV, szV, belV, ownV⟩ := coms_step 24 w6 #[.int .i64 x.e, .int .i64 x.f, x.v] 1 [x.c] rfl rfl (by simp [maxLen])
  have sz6 := hb.size
  have bwV : Below w.heap.size w V := hb.trans (belV.mono sz6)
  refine ⟨V, hV, belV, szV, fun ty => ?_⟩
  have hV' := h.below bwV
  have hxV := hx.below belV
  have hone : x.v.oneCell' = true := by
    obtain ⟨a, k, e, _⟩ := hx.c.row.shape
    rw [e]; rfl
  obtain ⟨v2, w2, hr, own2, gr2, at2⟩ := run_append_coms_at (P := Try.prog) (w := V) 41 ty 24 b Try.underlying41 Try.info24 v (swc l) hV'.r _ [x.c] ownV.row (fun d hd => by rw [List.mem_singleton.1 hd]; exact hone) (by rw [swc_len]; simp; omega) (by omega)
  have kp := KeepT.of_row hV'.r gr2
  refine ⟨v2, w2, hr, ⟨by rw [swc_snoc]; exact own2, fun y hy => ?_, fun y hy => ?_, fun i j y z hij hi hj g hg hz => ?_⟩, ⟨(belV.mono (by omega)).grown gr2 (by omega) fun g hg => (World.ownsRow.lt hV'.r g hg).1, gr2⟩, ?_⟩
  · rcases List.mem_append.1 hy with hy | hy
    · exact (hV'.o y hy).keepT kp (by decide) (by decide)
    · rw [List.mem_singleton.1 hy]
      exact (hxV.rebase hbw).keepT kp (by decide) (by decide)
  · rcases List.mem_append.1 hy with hy | hy
    · exact h.i y hy
    · rw [List.mem_singleton.1 hy]; exact hi
  · have hjl := (List.getElem?_eq_some_iff.1 hj).1
    rw [List.length_append, List.length_singleton] at hjl
    have hi' : i < l.length := by omega
    rw [List.getElem?_append_left hi'] at hi
    by_cases hjl' : j < l.length
    · rw [List.getElem?_append_left hjl'] at hj
      exact h.ap i j y z hij hi hj g hg hz
    · rw [List.getElem?_append_right (by omega), show j - l.length = 0 by omega, List.getElem?_cons_zero] at hj
      cases hj
      have h1 := ((h.o y (List.mem_of_getElem? hi)).lt g hg).2
      have h2 := (hx.lt g hz).1
      omega
  · obtain ⟨a1, k1, h1, _⟩ := own2.row.shape
    exact ⟨a1, _, k1, h1⟩

theorem OwnSe.push {b : Nat} {w w6 : World} {v : Value} {l : List Sw} (h : OwnSe b w v l) (hbw : b ≤ w.heap.size) (hb : Below w.heap.size w w6) (x : Sw) (hx : ShS w.heap.size w6 x.v x.rs) (hi : In64 x.e ∧ In64 x.f) (hl : l.length ≤ 1000000000) :
    ∃ V, w6.alloc (.cells #[.int .i64 x.e, .int .i64 x.f, x.v] 24) = V ∧ Below w6.heap.size w6 V ∧ V.heap.size = w6.heap.size + 1 ∧ ∀ ty, ∃ v2 w2, (Builtin.append_ #[41, 41] ty #[v, .slice (some ⟨w6.heap.size, 0, none⟩) 1 1]).run Try.prog V = .ok v2 w2 ∧ OwnSe b w2 v2 (l ++ [x]) ∧ Below b w6 w2 ∧ ∃ a n k, v2 = .slice a n k := by
  obtain ⟨V, h1, h2, h3, h4⟩ := h.pushG hbw hb x hx hi hl
  exact ⟨V, h1, h2, h3, fun ty => by
    obtain ⟨v2, w2, k1, k2, k3, k4⟩ := h4 ty
    exact ⟨v2, w2, k1, k2, k3.1, k4⟩⟩

/-- What a Scan answers and leaves. -/
def ScO (w : World) (bs : List Int) (E : Ending) (w' : World) : Prop :=
  ∃ (v : Value) (l : List Sw) (n : Nat), E = .returned (.tuple #[v, .int .i64 n]) ∧ Hid (OwnSe w.heap.size w' v l ∧ FitSe l ∧ n = (Orp.secs (sws l)).length ∧ Orp.Sn 0 bs (sws l) ∧ Below w.heap.size w w')

/-- In the midst of a Scan. -/
structure MiS (w wr : World) (bs : List Int) (a : Nat) (v : Value) (l : List Sw) : Prop where
  own : OwnSe w.heap.size wr v l
  fit : FitSe l
  ris : Orp.Ris 0 (sws l)
  pre : Orp.secs (sws l) <+: bs
  at' : a = (Orp.secs (sws l)).length
  bel : Below w.heap.size w wr

theorem MiS.le {w wr : World} {bs : List Int} {a : Nat} {v : Value} {l : List Sw} (h : MiS w wr bs a v l) : a ≤ bs.length := by rw [h.at']; exact h.pre.length_le
theorem MiS.len {w wr : World} {bs : List Int} {a : Nat} {v : Value} {l : List Sw} (h : MiS w wr bs a v l) : l.length ≤ a := by
  have := Orp.secs_len (sws l)
  rw [sws_len] at this
  rw [h.at']; exact this

/-- None follows. -/
theorem MiS.no {w wr : World} {bs : List Int} {a : Nat} {v : Value} {l : List Sw} (h : MiS w wr bs a v l) (hn : Orp.No (bs.drop a)) : Orp.Sn 0 bs (sws l) := ⟨h.ris, h.pre, fun t ht hp => by
  rw [← h.at'] at hp
  exact hn t ht.1 hp⟩
theorem MiS.low {w wr : World} {bs : List Int} {a : Nat} {v : Value} {l : List Sw} (h : MiS w wr bs a v l) {x : Sw} {n : Nat} (hr : Orp.Rd (bs.drop a) x.s n true) (hle : x.e ≤ Orp.lstS 0 (sws l)) : Orp.Sn 0 bs (sws l) := ⟨h.ris, h.pre, fun t ht hp => by
  rw [← h.at'] at hp
  rcases hr with ⟨_, h1, h2, _⟩ | ⟨h1, _⟩
  · have e := Orp.sec_one ht.1 h1 hp h2
    have := ht.2.1
    rw [e] at this
    have : Orp.lstS 0 (sws l) < x.e := this
    omega
  · simp at h1⟩

theorem lst_at {l : List Sw} {k : Nat} {x : Sw} (h : l[k]? = some x) (hk : k + 1 = l.length) (a : Int) : Orp.lstS a (sws l) = x.e := by
  have e : l = l.take k ++ [x] := by
    obtain ⟨hlt, e⟩ := List.getElem?_eq_some_iff.1 h
    have : l.take (k + 1) = l := List.take_of_length_le (by omega)
    rw [List.take_succ_eq_append_getElem hlt, e] at this
    exact this.symm
  rw [e, sws_snoc, Orp.lst_snoc]
  rfl

/-- One more follows. -/
theorem MiS.next {w wr wx : World} {bs : List Int} {a : Nat} {v v2 : Value} {l : List Sw} (h : MiS w wr bs a v l) {x : Sw} {n : Nat} (hr : Orp.Rd (bs.drop a) x.s n true) (hgt : Orp.lstS 0 (sws l) < x.e) (hf : FitC x.rs) (ho : OwnSe w.heap.size wx v2 (l ++ [x])) (hb : Below w.heap.size w wx) : MiS w wx bs (a + n) v2 (l ++ [x]) ∧ 1 ≤ n := by
  rcases hr with ⟨_, h1, h2, h3⟩ | ⟨h1, _⟩
  · have hz := Orp.chk_zero h1
    have hln : x.rs.length ≤ 1048576 := by
      have := hz.2.2.2.2.2.1
      rw [show x.s.cs = cvs x.rs from rfl, cvs_many] at this
      exact this
    have hp := Orp.sec_pos x.s
    refine ⟨⟨ho, fun y hy => ?_, ?_, ?_, ?_, hb⟩, by omega⟩
    · rcases List.mem_append.1 hy with hy | hy
      · exact h.fit y hy
      · rw [List.mem_singleton.1 hy]; exact ⟨hf, by omega⟩
    · rw [sws_snoc, Orp.ris_app]
      exact ⟨h.ris, h1, hgt, trivial⟩
    · rw [sws_snoc, Orp.secs_app, Orp.secs_one, Bm.pre_app]
      rw [h.at'] at h2
      exact ⟨h.pre, h2⟩
    · rw [sws_snoc, Orp.secs_app, Orp.secs_one, List.length_append, ← h.at', h3]
  · simp at h1

end Go.Proofs.Ytkpnkknolobioaa

/- SameSections; the statement's small, put and example (layer 19). -/
namespace Go.Proofs.Ytkpnkknolobioaa
open Go.RowKit
set_option linter.unusedVariables false

theorem sws_at {l : List Sw} {k : Nat} {x : Sw} (h : l[k]? = some x) : (sws l)[k]? = some x.s := by unfold sws; rw [List.getElem?_map, h]; rfl

set_option maxRecDepth 20000 in
set_option maxHeartbeats 4000000 in
theorem sameSe_yes (va vb : Value) (l m : List Sw) (w : World) (ha : IsSe w va l) (hb : IsSe w vb m) (fa : FitSe l) (fb : FitSe m) (hl : l.length ≤ 140737488355328) (he : sws l = sws m) :
    Calls Try.prog 21 #[va, vb] w fun E w' => E = .returned (.bool true) ∧ Below w.heap.size w w' := by
  have hlm : m.length = l.length := by rw [← sws_len m, ← he, sws_len]
  obtain ⟨aa, ca, hva, _, _⟩ := ha.shape
  obtain ⟨ab, cb, hvb, _, _⟩ := hb.shape
  rw [hlm] at hvb
  have ROW : Hid (∀ (k : Nat), k < l.length → ∃ b1 o1 b2 o2, aa = some ⟨b1, o1, none⟩ ∧ ab = some ⟨b2, o2, none⟩ ∧ ∃ e f v1 v2, (∀ W, Below w.heap.size w W → (W.cell? ⟨b1, o1 + k * 3, none⟩ = some (.int .i64 e) ∧ W.cell? ⟨b1, o1 + k * 3 + 1, none⟩ = some (.int .i64 f) ∧ W.cell? ⟨b1, o1 + k * 3 + 2, none⟩ = some v1) ∧ (W.cell? ⟨b2, o2 + k * 3, none⟩ = some (.int .i64 e) ∧ W.cell? ⟨b2, o2 + k * 3 + 1, none⟩ = some (.int .i64 f) ∧ W.cell? ⟨b2, o2 + k * 3 + 2, none⟩ = some v2)) ∧
      (∃ a n q, v1 = .slice a n q) ∧ (∃ a n q, v2 = .slice a n q) ∧ ∀ W, Below w.heap.size w W → Calls Try.prog 46 #[v1, v2] W fun E w' => E = .returned (.bool true) ∧ Below W.heap.size W w') := hide fun k hk => by
    obtain ⟨b1, o1, c1, h1, _, _, hb1, cell1⟩ := ha.full (by omega)
    obtain ⟨b2, o2, c2, h2, _, _, hb2, cell2⟩ := hb.full (by omega)
    rw [hva] at h1
    rw [hvb, hlm] at h2
    simp only [Value.slice.injEq, true_and] at h1 h2
    obtain ⟨x, hx⟩ : ∃ x, l[k]? = some x := ⟨l[k], List.getElem?_eq_getElem hk⟩
    obtain ⟨y, hy⟩ : ∃ y, m[k]? = some y := ⟨m[k]'(by omega), List.getElem?_eq_getElem _⟩
    have hs : x.s = y.s := by
      have q1 := sws_at hx
      have q2 := sws_at hy
      rw [he, q2] at q1
      exact (Option.some.inj q1).symm
    obtain ⟨d0, d1, d2⟩ := cell1 k x hx
    obtain ⟨e0, e1, e2⟩ := cell2 k y hy
    simp only [Sw.s, Orp.Se.mk.injEq] at hs
    obtain ⟨s1, s2, s3⟩ := hs
    rw [← s1] at e0
    rw [← s2] at e1
    have mx := List.mem_of_getElem? hx
    have my := List.mem_of_getElem? hy
    have ix := (ha.2 x mx).1
    have iy := (hb.2 y my).1
    refine ⟨b1, o1, b2, o2, h1.1, h2.1, x.e, x.f, x.v, y.v, fun W hW => ⟨⟨(hW.cell (p := ⟨b1, o1 + k * 3, none⟩) hb1).trans d0, (hW.cell (p := ⟨b1, o1 + k * 3 + 1, none⟩) hb1).trans d1, (hW.cell (p := ⟨b1, o1 + k * 3 + 2, none⟩) hb1).trans d2⟩, (hW.cell (p := ⟨b2, o2 + k * 3, none⟩) hb2).trans e0, (hW.cell (p := ⟨b2, o2 + k * 3 + 1, none⟩) hb2).trans e1, (hW.cell (p := ⟨b2, o2 + k * 3 + 2, none⟩) hb2).trans e2⟩, ?_, ?_, fun W hW => ?_⟩
    · obtain ⟨a, q, h, _, _⟩ := ix.1.shape; exact ⟨a, _, q, h⟩
    · obtain ⟨a, q, h, _, _⟩ := iy.1.shape; exact ⟨a, _, q, h⟩
    · have := sameCs_any x.v y.v x.rs y.rs W (ix.below hW) (iy.below hW) (fa x mx).1 (fb y my).1 (by have := (fa x mx).2; omega) (by have := (fb y my).2; omega)
      rw [s3, sameV_self] at this
      exact this
  subst hva hvb
  generalize l.length = n at *
  clear ha hb fa fb he hlm
  go_enter Try.func21, Try.ntmps21
  go_wp2
  go_loopw [5] (fun iv wr => ∃ k : Nat, k ≤ n ∧ iv = .int .i64 k ∧ Below w.heap.size w wr) (fun iv _ => n - (intOf iv).toNat)
  case atStart => exact ⟨0, by omega, rfl, Below.refl _ _⟩
  case round =>
    obtain ⟨k, hk, rfl, bel⟩ := hrel
    by_cases hlt : k < n
    · obtain ⟨b1, o1, b2, o2, rfl, rfl, e, f, v1, v2, CE, ⟨p1, p2, p3, rfl⟩, ⟨r1, r2, r3, rfl⟩, SC⟩ := ROW.out k hlt
      have hlt' : (k : Int) < n := by omega
      have hk0 : (0 : Int) ≤ (k : Int) := by omega
      have HCE := hide CE
      have HSC := hide SC
      obtain ⟨⟨d0, d1, d2⟩, ⟨e0, e1, e2⟩⟩ := CE wr bel
      have b20 := bel.drew
      have BEL := hide bel
      clear CE SC
      go_wp2_with fail
      go_region_held3 (fun W => (W.cell? ⟨b1, o1 + k * 3, none⟩ = some (.int .i64 e) ∧ W.cell? ⟨b1, o1 + k * 3 + 1, none⟩ = some (.int .i64 f) ∧ W.cell? ⟨b1, o1 + k * 3 + 2, none⟩ = some (.slice p1 p2 p3)) ∧ (W.cell? ⟨b2, o2 + k * 3, none⟩ = some (.int .i64 e) ∧ W.cell? ⟨b2, o2 + k * 3 + 1, none⟩ = some (.int .i64 f) ∧ W.cell? ⟨b2, o2 + k * 3 + 2, none⟩ = some (.slice r1 r2 r3))) (first | exact ⟨⟨d0, d1, d2⟩, ⟨e0, e1, e2⟩⟩ | exact HCE.out _ b5 | go_keep)
        (first | (go_at_call 46; refine (HSC.out _ b20).mono ?_; rintro E w5 ⟨rfl, bel5⟩; have b5 : Below w.heap.size w w5 := b20.trans (bel5.mono b20.size)))
      all_goals
        clear HSC
        go_wp2
        go_roundw
        case rel => exact ⟨k + 1, by omega, by go_num, b5⟩
        case measure => simp [intOf]; omega
    · have hlt' : ¬ (k : Int) < n := by omega
      go_wp2
      go_ret
      exact ⟨rfl, bel⟩

/-- Is a section gone through? -/
def smO (rs : List Cw) : Bool := decide (∀ c ∈ rs, c.l.length ≤ 40) && decide (rs.length ≤ 40)

theorem smO_yes {rs : List Cw} (h : smO rs = true) : (∀ c ∈ rs, c.l.length ≤ 40) ∧ rs.length ≤ 40 := by
  unfold smO at h
  rw [Bool.and_eq_true, decide_eq_true_eq, decide_eq_true_eq] at h
  exact h

set_option maxRecDepth 20000 in
set_option maxHeartbeats 2000000 in
theorem osmall_any (e f : Int) (v : Value) (rs : List Cw) (w : World) (h : IsC w v rs) (hl : rs.length ≤ 140737488355328) (hf : FitC rs) :
    Calls Try.prog 12 #[cmv e f v] w fun E w' => E = .returned (.bool (smO rs)) ∧ Below w.heap.size w w' := by
  unfold cmv
  obtain ⟨w1, hw1, sz1, bel1, hB⟩ := blk_step w #[.int .i64 e, .int .i64 f, v] 24
  have c2 : w1.cell? ⟨w.heap.size, 2, none⟩ = some v := blk_cell hB 2 rfl
  obtain ⟨ao, cap, hvl, _, _⟩ := h.1.shape
  have COM : Hid (∀ k, k < rs.length → ∃ b o, ao = some ⟨b, o, none⟩ ∧ ∃ c a q, rs[k]? = some c ∧ w1.cell? ⟨b, o + k * 3 + 2, none⟩ = some (.slice a c.l.length q) ∧ c.l.length ≤ 140737488355328) := hide fun k hk => by
    obtain ⟨b, o, cq, h1, _, _, hb, cell⟩ := h.1.full (by omega)
    rw [hvl] at h1
    simp only [Value.slice.injEq, true_and] at h1
    obtain ⟨c, hc⟩ : ∃ c, rs[k]? = some c := ⟨rs[k], List.getElem?_eq_getElem hk⟩
    obtain ⟨a, q, hv, _, _⟩ := (h.2 c (List.mem_of_getElem? hc)).1.shape
    have := (cell k c hc).2.2
    rw [hv] at this
    exact ⟨b, o, h1.1, c, a, q, hc, (bel1.cell (p := ⟨b, o + k * 3 + 2, none⟩) hb).trans this, by have := (hf c (List.mem_of_getElem? hc)).2; omega⟩
  have B1 := hide bel1
  rw [hvl] at hw1 c2
  subst hvl
  clear h hB bel1 hf
  go_enter Try.func12, Try.ntmps12
  go_wp2
  go_loopw [3] (fun iv wr => ∃ k : Nat, k ≤ rs.length ∧ iv = .int .i64 k ∧ Hid (∀ c ∈ rs.take k, c.l.length ≤ 40) ∧ wr = w1) (fun iv _ => rs.length - (intOf iv).toNat)
  case atStart => exact ⟨0, by omega, rfl, hide (fun c hc => by simp at hc), rfl⟩
  case round =>
    obtain ⟨k, hk, rfl, HK, rfl⟩ := hrel
    by_cases hlt : k < rs.length
    · obtain ⟨b, o, rfl, c, a, q, hc, d2, hcl⟩ := COM.out k hlt
      have hlt' : (k : Int) < rs.length := by omega
      have hk0 : (0 : Int) ≤ (k : Int) := by omega
      by_cases h40 : c.l.length ≤ 40
      · have NX : Hid (∀ d ∈ rs.take (k + 1), d.l.length ≤ 40) := hide (by
          obtain ⟨h1, h2⟩ := List.getElem?_eq_some_iff.1 hc
          intro d hd
          rw [List.take_succ_eq_append_getElem h1, h2] at hd
          rcases List.mem_append.1 hd with hd | hd
          · exact HK.out d hd
          · rw [List.mem_singleton.1 hd]; exact h40)
        have q1 : ¬ (40 : Int) < (c.l.length : Int) := by omega
        clear hc
        go_wp2
        go_roundw
        case rel => exact ⟨k + 1, by omega, by go_num, NX, by first | trivial | rfl⟩
        case measure => simp [intOf]; omega
      · have NO : Hid (smO rs = false) := hide (by
          unfold smO
          rw [Bool.and_eq_false_iff, decide_eq_false_iff_not]
          exact .inl fun h => h40 (h c (List.mem_of_getElem? hc)))
        have q1 : (40 : Int) < (c.l.length : Int) := by omega
        clear hc
        go_wp2
        go_ret
        exact ⟨by rw [NO.out]; rfl, B1.out⟩
    · have hlt' : ¬ (k : Int) < rs.length := by omega
      have ANS : Hid (smO rs = decide ((rs.length : Int) ≤ 40)) := hide (by
        have h1 := HK.out
        rw [List.take_of_length_le (by omega)] at h1
        unfold smO
        rw [decide_eq_true h1, Bool.true_and]
        by_cases h : rs.length ≤ 40
        · rw [decide_eq_true h, decide_eq_true (by omega)]
        · rw [decide_eq_false h, decide_eq_false (by omega)])
      go_wp2
      go_ret
      exact ⟨by rw [ANS.out]; simp, B1.out⟩

end Go.Proofs.Ytkpnkknolobioaa

/- The program's Check of a section (layer 19). -/
namespace Go.Proofs.Ytkpnkknolobioaa
open Go.RowKit
set_option linter.unusedVariables false

set_option maxRecDepth 20000 in
set_option maxHeartbeats 2000000 in
theorem pochk_any (e f : Int) (v : Value) (rs : List Cw) (w : World) (h : IsC w v rs) (hf : FitC rs) (hl : rs.length ≤ 140737488355328) :
    Calls Try.prog 8 #[cmv e f v] w fun E w' => E = .returned (.int .i64 (Orp.chk ⟨e, f, cvs rs⟩)) ∧ Below w.heap.size w w' := by
  unfold cmv
  obtain ⟨w1, hw1, sz1, bel1, hB⟩ := blk_step w #[.int .i64 e, .int .i64 f, v] 24
  have c0 : w1.cell? ⟨w.heap.size, 0, none⟩ = some (.int .i64 e) := blk_cell hB 0 rfl
  have c1 : w1.cell? ⟨w.heap.size, 1, none⟩ = some (.int .i64 f) := blk_cell hB 1 rfl
  have c2 : w1.cell? ⟨w.heap.size, 2, none⟩ = some v := blk_cell hB 2 rfl
  obtain ⟨ao, cap, hvl, hcap, hcm⟩ := h.1.shape
  have B1 := hide bel1
  by_cases ha : e < 1 ∨ 1048576 < e ∨ f < 0 ∨ rs.length = 0
  · rw [Orp.chk_arg (s := ⟨e, f, cvs rs⟩) (by rw [show (Orp.Se.mk e f (cvs rs)).cs = cvs rs from rfl, cvs_many]; exact ha)]
    subst hvl
    clear h hf hB bel1
    by_cases q1 : e < 1
    · clear ha
      go_enter Try.func8, Try.ntmps8
      go_wp2
      go_ret
      exact ⟨rfl, B1.out⟩
    by_cases q2 : 1048576 < e
    · clear ha
      go_enter Try.func8, Try.ntmps8
      go_wp2
      go_ret
      exact ⟨rfl, B1.out⟩
    by_cases q3 : f < 0
    · clear ha
      go_enter Try.func8, Try.ntmps8
      go_wp2
      go_ret
      exact ⟨rfl, B1.out⟩
    have q4 : rs.length = 0 := by omega
    rw [q4] at hw1 c2 ⊢
    clear ha hl hcap
    go_enter Try.func8, Try.ntmps8
    go_wp2
    go_ret
    exact ⟨rfl, B1.out⟩
  have h12 : ¬ ((Orp.Se.mk e f (cvs rs)).e < 1 ∨ 1048576 < (Orp.Se.mk e f (cvs rs)).e ∨ (Orp.Se.mk e f (cvs rs)).f < 0 ∨ (Orp.Se.mk e f (cvs rs)).cs.length = 0) := by
    rw [show (Orp.Se.mk e f (cvs rs)).cs = cvs rs from rfl, cvs_many]; exact ha
  have q1 : ¬ e < 1 := by omega
  have q2 : ¬ 1048576 < e := by omega
  have q3 : ¬ f < 0 := by omega
  have q4 : ((rs.length : Int) == 0) = false := by rw [beq_eq_false_iff_ne]; omega
  have X := hide (cfol_any 1 f v rs w1 (h.below bel1) hf hl)
  unfold flv at X
  have HB := hide (fun k => Orp.chk_fol (s := ⟨e, f, cvs rs⟩) h12 k)
  have HO := hide (fun k q => Orp.chk_ord (s := ⟨e, f, cvs rs⟩) h12 k q)
  have HK := hide (fun k q => Orp.chk_ok (s := ⟨e, f, cvs rs⟩) h12 k q)
  obtain ⟨z, hz⟩ : ∃ z, Orp.chk ⟨e, f, cvs rs⟩ = z := ⟨_, rfl⟩
  rw [hz] at HB HO HK ⊢
  obtain ⟨n, hn⟩ : ∃ n, rs.length = n + 1 := ⟨rs.length - 1, by omega⟩
  obtain ⟨b, off, cap', hv, _, _, hb, hcell⟩ := h.1.full (by omega)
  obtain ⟨c, hc⟩ : ∃ c, rs[n]? = some c := ⟨rs[n]'(by omega), List.getElem?_eq_getElem _⟩
  have hla := last_any hc hn.symm 1
  have d0 := (bel1.cell (p := ⟨b, off + n * 3, none⟩) hb).trans (hcell n c hc).1
  have hb1 : b < w1.heap.size := by omega
  simp only at HB HO HK
  rw [hla] at HO HK
  obtain ⟨fl, hfl⟩ : ∃ g, Cm.fol 1 f 0 (cvs rs) = g := ⟨_, rfl⟩
  rw [hfl] at X HB HO HK
  clear hz hfl
  obtain ⟨fe, fp⟩ := fl
  simp only at X HB HO HK
  rw [hvl] at hv
  simp only [Value.slice.injEq, true_and] at hv
  obtain ⟨hao, hcp⟩ := hv
  subst hao hcp
  have g2 : IntKind.i64.wrap ((rs.length : Int) - 1) = (n : Int) := by rw [wrap64s _ (by omega) (by omega)]; omega
  have g3 : (n : Int) < (rs.length : Int) := by omega
  have g4 : (0 : Int) ≤ (n : Int) := by omega
  rw [hvl] at X
  subst hvl
  have HBB := hide hB
  clear h hf hcell hc hn hla h12 ha hB
  go_enter Try.func8, Try.ntmps8
  go_wp2_with fail
  refine X.out.mono ?_
  rintro E w2 ⟨rfl, bel2⟩
  obtain ⟨w3, hw3, hw3', sz3, bel3, hF, a0, a1⟩ := new_two w2 63 (.int .i64 0) (.int .i64 0) (.int .i64 fe) (.int .i64 fp)
  have bel13 : Below w1.heap.size w1 w3 := bel2.trans (bel3.mono bel2.size)
  have B3 := hide (B1.out.trans (bel13.mono (by omega)))
  have hB3 := (bel13.block w.heap.size (by omega)).trans HBB.out
  have k0 := blk_cell hB3 0 rfl
  have k2 := blk_cell hB3 2 rfl
  simp only [List.getElem_toArray, List.getElem_cons_zero, List.getElem_cons_succ] at k0 k2
  have d3 := (bel13.cell (p := ⟨b, off + n * 3, none⟩) hb1).trans d0
  clear X bel2 bel3 hF hB3 HBB bel13
  by_cases hfe : fe = 0
  · have hb : (fe != 0) = false := by simp [hfe]
    by_cases h3 : e ≤ c.e
    · have HE := hide (HO.out hfe h3)
      clear HO HK HB hfe
      go_wp2_with fail
      go_quiet (fail)
      go_wp2
      go_ret
      exact ⟨by rw [HE.out]; rfl, below_drewN B3.out _⟩
    · have HE := hide (HK.out hfe (by omega))
      clear HO HK HB hfe
      go_wp2_with fail
      go_quiet (fail)
      go_wp2
      go_ret
      exact ⟨by rw [HE.out]; rfl, below_drewN B3.out _⟩
  · have hb : (fe != 0) = true := by simp [hfe]
    have HE := hide (HB.out hfe)
    clear HO HK HB hfe
    go_wp2
    go_ret
    exact ⟨by rw [HE.out]; rfl, B3.out⟩

end Go.Proofs.Ytkpnkknolobioaa

/- The program's Encode of a section (layer 19). -/
namespace Go.Proofs.Ytkpnkknolobioaa
open Go.RowKit
set_option linter.unusedVariables false

theorem Try.ix30 (a b c : Int) (w : World) : (Instr.index 94 (.agg #[.int .i64 a, .int .i64 b, .int .i64 c]) (.int .i64 0)).run Try.prog w = .ok (.int .i64 a) w := by kernel_rfl
theorem Try.ix31 (a b c : Int) (w : World) : (Instr.index 94 (.agg #[.int .i64 a, .int .i64 b, .int .i64 c]) (.int .i64 1)).run Try.prog w = .ok (.int .i64 b) w := by kernel_rfl
theorem Try.ix32 (a b c : Int) (w : World) : (Instr.index 94 (.agg #[.int .i64 a, .int .i64 b, .int .i64 c]) (.int .i64 2)).run Try.prog w = .ok (.int .i64 c) w := by kernel_rfl

theorem wrap_u64o (z : Int) (h0 : 0 ≤ z) (h1 : z < 9223372036854775808) : IntKind.u64.wrap z = z := by
  rw [IntKind.wrap_u64]; omega

/-- The first numbers of a header. -/
def hd3 (e f : Int) (n : Nat) (k : Nat) : List Int := ([Vm.enc e.toNat, Vm.enc f.toNat, Vm.enc n].take k).flatten

set_option maxRecDepth 20000 in
set_option maxHeartbeats 2000000 in
theorem pohead_any (e f : Int) (v : Value) (rs : List Cw) (w : World) (h : RowC w v rs) (he : 0 ≤ e ∧ e ≤ 1048576) (hf : 0 ≤ f ∧ f ≤ 1048576) (hl : rs.length ≤ 1048576) :
    Calls Try.prog 37 #[cmv e f v] w fun E w' => ∃ vb, E = .returned vb ∧ Own .u8 5 w.heap.size w' vb (Orp.hdr ⟨e, f, cvs rs⟩) ∧ Below w.heap.size w w' := by
  unfold cmv
  obtain ⟨w1, hw1, sz1, bel1, hB⟩ := blk_step w #[.int .i64 e, .int .i64 f, v] 24
  have c0 : w1.cell? ⟨w.heap.size, 0, none⟩ = some (.int .i64 e) := blk_cell hB 0 rfl
  have c1 : w1.cell? ⟨w.heap.size, 1, none⟩ = some (.int .i64 f) := blk_cell hB 1 rfl
  have c2 : w1.cell? ⟨w.heap.size, 2, none⟩ = some v := blk_cell hB 2 rfl
  obtain ⟨ao, cap, hvl, hcap, hcm⟩ := h.shape
  have B1 := hide bel1
  have HH : Hid (hd3 e f rs.length 3 = Orp.hdr ⟨e, f, cvs rs⟩) := hide (by
    unfold hd3 Orp.hdr
    simp [cvs_many])
  rw [← HH.out]
  obtain ⟨n, hn⟩ : ∃ n, rs.length = n := ⟨_, rfl⟩
  rw [hn] at hvl hl ⊢
  subst hvl
  have l1 := Cm.enc_small (x := e) (by omega)
  have l2 := Cm.enc_small (x := f) (by omega)
  obtain ⟨he0, he1⟩ := he
  obtain ⟨hf0, hf1⟩ := hf
  clear h hB bel1 HH hn hcap hcm
  go_enter Try.func37, Try.ntmps37
  go_wp2
  go_loopw [3, 14] (fun bb kk wr => ∃ k : Nat, k ≤ 3 ∧ kk = .int .i64 k ∧ Own .u8 5 w.heap.size wr bb (hd3 e f n k) ∧ Below w.heap.size w wr) (fun _ kk _ => 4 - (intOf kk).toNat)
  case atStart => exact ⟨0, by omega, rfl, Own.nil _ _ _ _, B1.out⟩
  case round =>
    obtain ⟨k, hk, rfl, own, belr⟩ := hrel
    have szr := belr.size
    clear c0 c1 c2
    rcases (show k = 0 ∨ k = 1 ∨ k = 2 ∨ k = 3 by omega) with rfl | rfl | rfl | rfl
    · have hix := Try.ix30 e f n
      have hwr := wrap_u64o e (by omega) (by omega)
      have hln : (hd3 e f n 0).length ≤ 9 := by simp [hd3]
      go_wp2_with fail
      refine (app_any _ _ e _ own.is (by omega) (by omega) (by omega)).mono ?_
      rintro E w4 ⟨v4, rfl, own4, bel4⟩
      have e' : hd3 e f n 0 ++ Vm.enc (e).toNat = hd3 e f n 1 := by simp [hd3]
      rw [e'] at own4
      have own5 := own4.rebase (base' := w.heap.size) (by omega)
      have bel5 := belr.trans (bel4.mono (by omega))
      clear own own4 e' bel4 hln
      go_wp2
      go_roundw
      case rel => exact ⟨1, by omega, rfl, own5, bel5⟩
      case measure => simp [intOf]
    · have hix := Try.ix31 e f n
      have hwr := wrap_u64o f (by omega) (by omega)
      have hln : (hd3 e f n 1).length ≤ 9 := by simp [hd3]; omega
      go_wp2_with fail
      refine (app_any _ _ f _ own.is (by omega) (by omega) (by omega)).mono ?_
      rintro E w4 ⟨v4, rfl, own4, bel4⟩
      have e' : hd3 e f n 1 ++ Vm.enc (f).toNat = hd3 e f n 2 := by simp [hd3]
      rw [e'] at own4
      have own5 := own4.rebase (base' := w.heap.size) (by omega)
      have bel5 := belr.trans (bel4.mono (by omega))
      clear own own4 e' bel4 hln
      go_wp2
      go_roundw
      case rel => exact ⟨2, by omega, rfl, own5, bel5⟩
      case measure => simp [intOf]
    · have hix := Try.ix32 e f n
      have hwr := wrap_u64o (n : Int) (by omega) (by omega)
      have hln : (hd3 e f n 2).length ≤ 9 := by simp [hd3]; omega
      go_wp2_with fail
      refine (app_any _ _ (n : Int) _ own.is (by omega) (by omega) (by omega)).mono ?_
      rintro E w4 ⟨v4, rfl, own4, bel4⟩
      have e' : hd3 e f n 2 ++ Vm.enc ((n : Int)).toNat = hd3 e f n 3 := by simp [hd3]
      rw [e'] at own4
      have own5 := own4.rebase (base' := w.heap.size) (by omega)
      have bel5 := belr.trans (bel4.mono (by omega))
      clear own own4 e' bel4 hln
      go_wp2
      go_roundw
      case rel => exact ⟨3, by omega, rfl, own5, bel5⟩
      case measure => simp [intOf]
    · go_wp2
      go_ret
      exact ⟨_, rfl, own, belr⟩

set_option maxHeartbeats 1000000 in
theorem poframed_any (v : Value) (r : List Int) (w : World) (h : Is .u8 w v r) (hl : r.length ≤ 131072) :
    Calls Try.prog 36 #[v] w fun E w' => ∃ vb, E = .returned vb ∧ Own .u8 5 w.heap.size w' vb (Fm.frm r) ∧ Below w.heap.size w w' := by
  have HF := hide (fapp_any (.slice none 0 0) v [] r w (Is.nil _ _) h (by simp) (by omega))
  rw [show ape r = 0 by unfold ape; rw [if_pos hl], show apd [] r = Fm.frm r by unfold apd; rw [if_pos hl]; rfl] at HF
  obtain ⟨ab, cb, hvb, _, _⟩ := h.shape
  rw [hvb] at HF
  subst hvb
  clear h
  go_enter Try.func36, Try.ntmps36
  go_wp2_with fail
  refine HF.out.mono ?_
  rintro E w3 ⟨vf, rfl, own3, bel3⟩
  obtain ⟨af, cf, hvf, _, _⟩ := own3.is.shape
  have O3 := hide own3
  have B3 := hide bel3
  subst hvf
  clear own3 bel3 HF
  go_wp2
  go_ret
  exact ⟨_, rfl, O3.out, B3.out⟩

set_option maxRecDepth 20000 in
set_option maxHeartbeats 4000000 in
theorem poenc_any (e f : Int) (v : Value) (rs : List Cw) (w : World) (h : IsC w v rs) (hf : FitC rs) (hl : rs.length ≤ 140737488355328) :
    Calls Try.prog 15 #[cmv e f v] w fun E w' => ∃ vb, E = .returned (.tuple #[vb, .int .i64 (Orp.chk ⟨e, f, cvs rs⟩)]) ∧ Own .u8 5 w.heap.size w' vb (Orp.out ⟨e, f, cvs rs⟩) ∧ Below w.heap.size w w' := by
  obtain ⟨w1, hw1, sz1, bel1, hB⟩ := blk_step w #[.int .i64 e, .int .i64 f, v] 24
  have c0 : w1.cell? ⟨w.heap.size, 0, none⟩ = some (.int .i64 e) := blk_cell hB 0 rfl
  have c1 : w1.cell? ⟨w.heap.size, 1, none⟩ = some (.int .i64 f) := blk_cell hB 1 rfl
  have c2 : w1.cell? ⟨w.heap.size, 2, none⟩ = some v := blk_cell hB 2 rfl
  have HM := hide (pochk_any e f v rs w1 (h.below bel1) hf hl)
  obtain ⟨ao, cap, hvl, _, _⟩ := h.1.shape
  obtain ⟨ch, hch⟩ : ∃ x, Orp.chk ⟨e, f, cvs rs⟩ = x := ⟨_, rfl⟩
  rw [hch] at HM ⊢
  have HA := hide hch
  have HF := hide hf
  have HROW : Hid (∀ W, Below w.heap.size w W → RowC W v rs) := hide fun W hW => (h.below hW).1
  have CE : Hid (∀ W, Below w1.heap.size w1 W → W.cell? ⟨w.heap.size, 0, none⟩ = some (.int .i64 e) ∧ W.cell? ⟨w.heap.size, 1, none⟩ = some (.int .i64 f) ∧ W.cell? ⟨w.heap.size, 2, none⟩ = some v) := hide fun W hb =>
    ⟨(hb.cell (p := ⟨w.heap.size, 0, none⟩) (show w.heap.size < w1.heap.size by omega)).trans c0, (hb.cell (p := ⟨w.heap.size, 1, none⟩) (show w.heap.size < w1.heap.size by omega)).trans c1, (hb.cell (p := ⟨w.heap.size, 2, none⟩) (show w.heap.size < w1.heap.size by omega)).trans c2⟩
  have FULL : Hid (∀ (i : Nat) (W : World), i < rs.length → Below w.heap.size w W → ∃ b off, v = .slice (some ⟨b, off, none⟩) rs.length cap ∧ ∃ c, rs[i]? = some c ∧ W.cell? ⟨b, off + i * 3, none⟩ = some (.int .i64 c.e) ∧ W.cell? ⟨b, off + i * 3 + 1, none⟩ = some (.int .i64 c.n) ∧ W.cell? ⟨b, off + i * 3 + 2, none⟩ = some c.v ∧ IsO W c.v c.l ∧ ∃ a n q, c.v = .slice a n q) := hide fun i W hi hW => by
    obtain ⟨b, off, cap', hv, _, _, hb, hcell⟩ := h.1.full (by omega)
    rw [hvl] at hv
    simp only [Value.slice.injEq, true_and] at hv
    obtain ⟨rfl, rfl⟩ := hv
    obtain ⟨c, hc⟩ : ∃ c, rs[i]? = some c := ⟨rs[i], List.getElem?_eq_getElem hi⟩
    obtain ⟨d0, d1, d2⟩ := hcell i c hc
    have hio := (h.2 c (List.mem_of_getElem? hc)).1
    obtain ⟨a1, q1, ha, _, _⟩ := hio.shape
    exact ⟨b, off, hvl, c, hc, (hW.cell (p := ⟨b, off + i * 3, none⟩) hb).trans d0, (hW.cell (p := ⟨b, off + i * 3 + 1, none⟩) hb).trans d1, (hW.cell (p := ⟨b, off + i * 3 + 2, none⟩) hb).trans d2, hio.below hW, a1, _, q1, ha⟩
  have B1 := hide bel1
  unfold cmv at HM ⊢
  rw [hvl] at HM CE FULL HROW c2 hw1
  subst hvl
  clear h hf hch hB bel1
  go_enter Try.func15, Try.ntmps15
  go_wp2_with fail
  refine HM.out.mono ?_
  rintro E w2 ⟨rfl, bel2⟩
  have sz2 := bel2.size
  clear c0 c1 c2 HM
  by_cases h0 : ch = 0
  · subst h0
    have HZ := hide (Orp.chk_zero HA.out)
    obtain ⟨g1, g2, g3, g4, g5, g6, _⟩ := HZ.out
    simp only at g1 g2 g3 g4 g5 g6
    rw [cvs_many] at g5 g6
    obtain ⟨d0, d1, d2⟩ := CE.out w2 bel2
    have B2 := hide (B1.out.trans (bel2.mono (by omega)))
    have HH := hide (pohead_any e f _ rs w2 (HROW.out w2 B2.out) ⟨by omega, g2⟩ ⟨g3, g4⟩ g6)
    unfold cmv at HH
    clear HROW
    go_wp2_with fail
    refine HH.out.mono ?_
    rintro E w3 ⟨v3, rfl, own3, bel3⟩
    have b3 := bel2.trans (bel3.mono sz2)
    have sz3 := b3.size
    obtain ⟨a3, k3, hv3, _, _⟩ := own3.is.shape
    have lh : (Orp.hdr ⟨e, f, cvs rs⟩).length ≤ 9 := Orp.hdr_small HA.out
    have APP := hide (poframed_any v3 (Orp.hdr ⟨e, f, cvs rs⟩) w3 own3.is (by omega))
    rw [hv3] at APP
    subst hv3
    clear d0 d1 d2 bel2 bel3 own3 HH B2
    go_wp2_with fail
    refine APP.out.mono ?_
    rintro E w6 ⟨v6, rfl, own6, bel6⟩
    have b6 := b3.trans (bel6.mono sz3)
    have O6 := hide (own6.rebase (base' := w1.heap.size) (by omega))
    have LF : Hid ((Fm.frm (Orp.hdr ⟨e, f, cvs rs⟩)).length ≤ 10) := hide (by
      rw [Fm.frm_len]
      have : Vm.sz (Orp.hdr ⟨e, f, cvs rs⟩).length ≤ 1 := Vm.sz_le 0 _ (by omega)
      omega)
    obtain ⟨d0, d1, d2⟩ := CE.out w6 b6
    clear own6 bel6 b3 APP lh
    go_wp2
    go_loopw [5, 21] (fun bb kk wr => ∃ k : Nat, k ≤ rs.length ∧ kk = .int .i64 k ∧ Hid (Own .u8 5 w1.heap.size wr bb (Fm.frm (Orp.hdr ⟨e, f, cvs rs⟩) ++ Wl.lgb (cvs (rs.take k)))) ∧ Below w1.heap.size w1 wr) (fun _ kk _ => rs.length - (intOf kk).toNat)
    case atStart => exact ⟨0, by omega, rfl, hide (by simpa [cvs, Wl.lgb, Fm.cat] using O6.out), b6⟩
    case round =>
      obtain ⟨k, hk, rfl, OK, belk⟩ := hrel
      have szk := belk.size
      have bel := B1.out.trans (belk.mono (by omega))
      clear d0 d1 d2 O6 b6
      by_cases hlt : k < rs.length
      · obtain ⟨b, off, hvx, c, hc, d0, d1, d2, hio, ca, cn, cq, hcv⟩ := FULL.out k wr hlt bel
        simp only [Value.slice.injEq, and_true] at hvx
        have hcm := List.mem_of_getElem? hc
        have hck : Cm.chk c.e c.n c.l = 0 := HZ.out.2.2.2.2.2.2.2.2 c.c (by show c.c ∈ cvs rs; exact List.mem_of_getElem? (cvs_two hc))
        obtain ⟨hfo, hfl⟩ := HF.out c hcm
        have LE : Hid ((Fm.frm (Orp.hdr ⟨e, f, cvs rs⟩) ++ Wl.lgb (cvs (rs.take k))).length ≤ 1000000000) := hide (by
          have h1 := Orp.lgb_le (l := cvs (rs.take k)) fun x hx => by
            have : x ∈ cvs rs := by
              unfold cvs at hx ⊢
              rw [List.map_take] at hx
              exact List.mem_of_mem_take hx
            exact HZ.out.2.2.2.2.2.2.2.2 x this
          rw [cvs_many, List.length_take] at h1
          have h2 := LF.out
          rw [List.length_append]
          omega)
        have NX := hide (lgb_step hc)
        obtain ⟨wa, hwa, hwa2, sza, bela, bA, x0, x1, x2⟩ := new_step wr 32 (.int .i64 0) (.int .i64 0) (.slice none 0 0) (.int .i64 c.e) (.int .i64 c.n) c.v
        have FR := hide (cenc_any c.e c.n c.v c.l wa (hio.below bela) hfo (by omega))
        have hcr : Cm.out c.e c.n c.l = Wl.rec ⟨c.e, c.n, c.l⟩ := Cm.out_ok hck
        rw [hck, hcr] at FR
        have lrc := Wl.rec_small (c := ⟨c.e, c.n, c.l⟩) hck
        have lfr := Wl.fr_small (c := ⟨c.e, c.n, c.l⟩) hck
        have hlt' : (k : Int) < rs.length := by omega
        unfold cmv at FR
        rw [hcv] at d2 FR x2 hwa hwa2
        have OKa := hide (OK.out.below bela)
        have ba := belk.trans (bela.mono szk)
        subst hvx
        clear hio hcm hck hc hcv hfo hfl hcr bA bela OK belk
        go_wp2_with fail
        refine FR.out.mono ?_
        rintro E w7 ⟨v7, rfl, own7, bel7⟩
        obtain ⟨a7, k7, hv7, _, _⟩ := own7.is.shape
        have b7 := ba.trans (bel7.mono ba.size)
        have OK7 := hide (OKa.out.below bel7)
        have FD := hide (poframed_any v7 (Wl.rec ⟨c.e, c.n, c.l⟩) w7 own7.is (by omega))
        rw [show Fm.frm (Wl.rec ⟨c.e, c.n, c.l⟩) = Wl.fr ⟨c.e, c.n, c.l⟩ from rfl, hv7] at FD
        subst hv7
        clear own7 bel7 FR OKa ba x0 x1 x2 d0 d1 d2 bel
        go_wp2_with fail
        refine FD.out.mono ?_
        rintro E w8 ⟨v8, rfl, own8, bel8⟩
        have OKb := hide (OK7.out.below bel8)
        have b8 := b7.trans (bel8.mono b7.size)
        have s8 := b8.size
        have I8 := hide own8.is
        have hsum : ((Fm.frm (Orp.hdr ⟨e, f, cvs rs⟩) ++ Wl.lgb (cvs (rs.take k))).length + (Wl.fr ⟨c.e, c.n, c.l⟩).length) * 1 ≤ 150000000000000 := by have := LE.out; omega
        clear own8 bel8 FD OK7 LE lfr lrc b7
        go_wp2_with (at_builtin; refine wpList_append_is rfl (.tmp 30) (.tmp 32) 25 rfl .u8 5 w1.heap.size 1 Try.underlying25 Try.info5 (by decide) _ _ rfl OKb.out _ _ rfl I8.out hsum s8 ?_)
        intro v9 w9 own9 bel9 gr9
        have O9 : Hid (Own .u8 5 w1.heap.size w9 v9 (Fm.frm (Orp.hdr ⟨e, f, cvs rs⟩) ++ Wl.lgb (cvs (rs.take (k + 1))))) := hide (by
          rw [NX.out, sz1]
          exact own9)
        rw [← sz1] at bel9
        have b9 := b8.trans bel9
        clear own9 bel9 gr9 b8 OKb I8 NX hsum
        go_wp2
        go_roundw
        case rel => exact ⟨k + 1, by omega, by go_num, O9, b9⟩
        case measure => simp [intOf]; omega
      · have hlt' : ¬ (k : Int) < rs.length := by omega
        have OW : Hid (Own .u8 5 w.heap.size wr u5 (Orp.out ⟨e, f, cvs rs⟩)) := hide (by
          rw [Orp.out_ok HA.out]
          have := OK.out
          rw [List.take_of_length_le (by omega)] at this
          exact this.rebase (by omega))
        clear OK
        go_wp2
        go_ret2
        exact ⟨_, rfl, OW.out, bel⟩
  · have hne : (ch != 0) = true := by simp [h0]
    have HO : Hid (Orp.out ⟨e, f, cvs rs⟩ = []) := hide (Orp.out_no (by rw [HA.out]; exact h0))
    have B2 := B1.out.trans (bel2.mono (by omega))
    go_wp2
    go_ret2
    exact ⟨_, rfl, by rw [HO.out]; exact Own.nil _ _ _ _, B2⟩

end Go.Proofs.Ytkpnkknolobioaa
