/- Texts of one layer, one behind the other. -/
import Derived.Test.YtkpnkknolobioaaGreatG13
import Derived.Deep.RegionHeld3
import Derived.Test.YtkpnkknolobioaaGreatG12
import Derived.Test.YtkpnkknolobioaaGreatG1
import Derived.Test.YtkpnkknolobioaaGreatG7
import Derived.Test.YtkpnkknolobioaaGreatG8
/- The document's reading of a section (layer 19). -/
namespace Go.Proofs.YtkpnkknolobioaaGreat
open Go.RowKit
set_option linter.unusedVariables false

/-- What the three numbers of a header come to. -/
theorem doc3o {bs : List Int} {x y m a1 a2 a3 : Nat} {b1 b2 b3 : Bool} (s1 : SStep bs 1048576 0 false x a1 b1) (s2 : SStep bs 1048576 a1 b1 y a2 b2) (s3 : SStep bs 1048576 a2 b2 m a3 b3) :
    (x ≤ 1048576 ∧ y ≤ 1048576 ∧ m ≤ 1048576) ∧ ((b3 = true ∧ Orp.NoH bs) ∨ (b3 = false ∧ Vm.enc x <+: bs ∧ Vm.enc y <+: bs.drop (Vm.sz x) ∧ Vm.enc m <+: bs.drop (Vm.sz x + Vm.sz y) ∧ a3 = Vm.sz x + Vm.sz y + Vm.sz m)) := by
  rcases s1 with ⟨h, _⟩ | ⟨_, rfl, rfl, _, h⟩ | ⟨_, rfl, h1, h2, h3⟩
  · cases h
  · rcases s2 with ⟨_, rfl, rfl, _⟩ | ⟨h, _⟩ | ⟨h, _⟩
    · rcases s3 with ⟨_, rfl, rfl, _⟩ | ⟨h, _⟩ | ⟨h, _⟩
      · exact ⟨by omega, .inl ⟨rfl, Orp.noh1 (by simpa using h)⟩⟩
      · cases h
      · cases h
    · cases h
    · cases h
  · rw [List.drop_zero] at h2
    have e1 : a1 = Vm.sz x := by omega
    subst e1
    rcases s2 with ⟨h, _⟩ | ⟨_, rfl, rfl, _, h⟩ | ⟨_, rfl, k1, k2, k3⟩
    · cases h
    · rcases s3 with ⟨_, rfl, rfl, _⟩ | ⟨h, _⟩ | ⟨h, _⟩
      · exact ⟨by omega, .inl ⟨rfl, Orp.noh2 h2 h⟩⟩
      · cases h
      · cases h
    · subst k3
      rcases s3 with ⟨h, _⟩ | ⟨_, rfl, rfl, _, h⟩ | ⟨_, rfl, j1, j2, j3⟩
      · cases h
      · exact ⟨by omega, .inl ⟨rfl, Orp.noh3 h2 k2 h⟩⟩
      · exact ⟨by omega, .inr ⟨rfl, h2, k2, j2, j3⟩⟩

/-- What a reading of one section answers and leaves. -/
def RdO (w : World) (bs : List Int) (E : Ending) (w' : World) : Prop :=
  ∃ (x : Sw) (n : Nat) (g : Bool), E = .returned (.tuple #[.agg #[.int .i64 x.e, .int .i64 x.f, x.v], .int .i64 n, .bool g]) ∧ Hid (ShS w.heap.size w' x.v x.rs ∧ In64 x.e ∧ In64 x.f ∧ Orp.Rd bs x.s n g ∧ Below w.heap.size w w')

theorem rdo_no {w w' : World} {bs : List Int} (hb : Below w.heap.size w w') (hn : Orp.No bs) : RdO w bs (.returned (.tuple #[.agg #[.int .i64 0, .int .i64 0, .slice none 0 0], .int .i64 0, .bool false])) w' :=
  ⟨⟨0, 0, .slice none 0 0, []⟩, 0, false, rfl, hide ⟨ShS.nil _ _, by simp [In64], by simp [In64], .inr ⟨rfl, hn⟩, hb⟩⟩

/-- In the midst of the commits. -/
structure MdO (w wr : World) (bs : List Int) (S x y m a : Nat) (v : Value) (cs : List Cw) : Prop where
  blk : wr.heap[S]? = some (.cells #[.int .i64 x, .int .i64 y, v] 25 (0, 0))
  r0 : wr.heap[w.heap.size]? = some (.cells #[.int .i64 0, .int .i64 0, .slice none 0 0] 25 (0, 0))
  lt : w.heap.size < S
  sh : ShS (S + 1) wr v cs
  bel : Below w.heap.size w wr
  hh : Fm.frm (Vm.enc x ++ (Vm.enc y ++ Vm.enc m)) <+: bs
  hl : Wl.lgb (cvs cs) <+: bs.drop (Fm.frm (Vm.enc x ++ (Vm.enc y ++ Vm.enc m))).length
  hc : ∀ c ∈ cvs cs, Cm.chk c.e c.n c.l = 0
  at' : a = (Fm.frm (Vm.enc x ++ (Vm.enc y ++ Vm.enc m))).length + (Wl.lgb (cvs cs)).length
  len : cs.length ≤ m
  num : x ≤ 1048576 ∧ y ≤ 1048576 ∧ m ≤ 1048576

theorem MdO.le {w wr : World} {bs : List Int} {S x y m a : Nat} {v : Value} {cs : List Cw} (h : MdO w wr bs S x y m a v cs) : a ≤ bs.length := by
  have h1 := h.hh.length_le
  have h2 := h.hl.length_le
  rw [List.length_drop] at h2
  rw [h.at']
  omega

/-- No frame follows. -/
theorem MdO.no1 {w wr : World} {bs : List Int} {S x y m a : Nat} {v : Value} {cs : List Cw} (h : MdO w wr bs S x y m a v cs) (hlt : cs.length < m) {r : List Int} {n : Nat} {e : Int} (hr : Fm.Rd (bs.drop a) r n e) (he : e ≠ 0) : Orp.No bs := by
  rcases hr with ⟨h1, _⟩ | ⟨_, _, _, hn⟩
  · exact absurd h1 he
  · refine Orp.no_mid h.hh h.hl h.hc (by rw [cvs_many]; exact hlt) fun c hc hp => ?_
    rw [← h.at'] at hp
    exact hn _ (by have := Wl.rec_small hc; omega) hp

/-- A frame follows that is no commit. -/
theorem MdO.no2 {w wr : World} {bs : List Int} {S x y m a : Nat} {v : Value} {cs : List Cw} (h : MdO w wr bs S x y m a v cs) (hlt : cs.length < m) {r : List Int} {n : Nat} (hr : Fm.Rd (bs.drop a) r n 0) {e k g : Int} {l : List Bm.Ov} (hd : Cm.CRes r e k l g) (hg : g ≠ 0) : Orp.No bs := by
  rcases hr with ⟨_, _, _, hp⟩ | ⟨h1, _⟩
  · rcases hd with ⟨h1, _⟩ | ⟨_, _, _, _, hn⟩
    · exact absurd h1 hg
    · refine Orp.no_mid h.hh h.hl h.hc (by rw [cvs_many]; exact hlt) fun c hc hq => ?_
      rw [← h.at'] at hq
      exact hn _ _ _ hc (Fm.frm_one hq hp)
  · simp at h1

/-- A commit follows. -/
theorem mdo_next {bs : List Int} {x y m a : Nat} {cs : List Cw} {r : List Int} {n : Nat} {e k : Int} {l : List Bm.Ov} {v' : Value}
    (hl : Wl.lgb (cvs cs) <+: bs.drop (Fm.frm (Vm.enc x ++ (Vm.enc y ++ Vm.enc m))).length) (hc : ∀ c ∈ cvs cs, Cm.chk c.e c.n c.l = 0) (ha : a = (Fm.frm (Vm.enc x ++ (Vm.enc y ++ Vm.enc m))).length + (Wl.lgb (cvs cs)).length)
    (hr : Fm.Rd (bs.drop a) r n 0) (hd : Cm.CRes r e k l 0) : Cm.chk e k l = 0 ∧ 1 ≤ n ∧ a + n ≤ bs.length ∧ Wl.lgb (cvs (cs ++ [⟨e, k, v', l⟩])) <+: bs.drop (Fm.frm (Vm.enc x ++ (Vm.enc y ++ Vm.enc m))).length ∧ (∀ c ∈ cvs (cs ++ [⟨e, k, v', l⟩]), Cm.chk c.e c.n c.l = 0) ∧
      a + n = (Fm.frm (Vm.enc x ++ (Vm.enc y ++ Vm.enc m))).length + (Wl.lgb (cvs (cs ++ [⟨e, k, v', l⟩]))).length := by
  rcases hr with ⟨_, _, hn, hp⟩ | ⟨h1, _⟩
  · rcases hd with ⟨_, hk, he⟩ | ⟨h1, _⟩
    · have hcv : cvs (cs ++ [⟨e, k, v', l⟩]) = cvs cs ++ [⟨e, k, l⟩] := by simp [cvs, Cw.c]
      have hfr : Wl.fr ⟨e, k, l⟩ = Fm.frm r := by unfold Wl.fr Wl.rec; rw [he]
      have hln : (Fm.frm r).length = n := by rw [Fm.frm_len, hn]
      have h1 := Fm.frm_pos r
      have h2 := hp.length_le
      rw [List.length_drop] at h2
      refine ⟨hk, by omega, by omega, ?_, fun c hcc => ?_, ?_⟩
      · rw [hcv, Wl.lgb_app, Wl.lgb_one, hfr, Bm.pre_app, List.drop_drop, ← ha]
        exact ⟨hl, hp⟩
      · rw [hcv] at hcc
        rcases List.mem_append.1 hcc with hcc | hcc
        · exact hc c hcc
        · rw [List.mem_singleton.1 hcc]; exact hk
      · rw [hcv, Wl.lgb_app, Wl.lgb_one, hfr, List.length_append, hln]
        omega
    · simp at h1
  · simp at h1

end Go.Proofs.YtkpnkknolobioaaGreat

/- The document's reading of a section, walked (layer 19). -/
namespace Go.Proofs.YtkpnkknolobioaaGreat
open Go.RowKit
set_option linter.unusedVariables false

/-- A commit more. -/
theorem MdO.push {w wr w6 : World} {bs : List Int} {S x y m a : Nat} {v : Value} {cs : List Cw} (h : MdO w wr bs S x y m a v cs) (hb : Below wr.heap.size wr w6) (hlt : cs.length < m) {r : List Int} {n : Nat} (hr : Fm.Rd (bs.drop a) r n 0) {e k : Int} {l : List Bm.Ov} (hd : Cm.CRes r e k l 0) {v' : Value} (ho : OwnO 93 wr.heap.size w6 v' l) :
    ∃ V, w6.alloc (.cells #[.int .i64 e, .int .i64 k, v'] 59) = V ∧ V.cell? ⟨S, 2, none⟩ = some v ∧ Hid (∀ ty, ∃ v2 w2, (Builtin.append_ #[23, 23] ty #[v, .slice (some ⟨w6.heap.size, 0, none⟩) 1 1]).run Tryz.prog V = .ok v2 w2 ∧
      ((∃ U, w2.setCell ⟨S, 2, none⟩ v2 = U ∧ MdO w U bs S x y m (a + n) v2 (cs ++ [⟨e, k, v', l⟩])) ∧ w2.cell? ⟨S, 2, none⟩ = some v ∧ w2.frozen? ⟨S, 2, none⟩ = false ∧ ∃ a n k, v2 = .slice a n k)) := by
  obtain ⟨g1, g2, g3, g4, g5, g6⟩ := mdo_next (v' := v') h.hl h.hc h.at' hr hd
  have hS := blk_lt h.blk
  obtain ⟨V, hV, belV, szV, hpu⟩ := h.sh.push (by omega) hb ⟨e, k, v', l⟩ ho (cfit_ok g1) (by have := h.num; have := h.len; omega)
  have bwV : Below wr.heap.size wr V := hb.trans (belV.mono hb.size)
  have hBV := (bwV.block S hS).trans h.blk
  have hRV := (bwV.block w.heap.size (blk_lt h.r0)).trans h.r0
  refine ⟨V, hV, blk_cell hBV 2 rfl, hide fun ty => ?_⟩
  obtain ⟨v2, w2, hrun, sh2, gr2, hsl⟩ := hpu ty
  have hvb : ∀ g, v.ownBlock = some g → S + 1 ≤ g := fun g hg => (World.ownsRow.lt h.sh.c g hg).1
  have hB2 := (gr2.block S (blk_lt hBV) fun e => by have := hvb S e.symm; omega).trans hBV
  have hR2 := (gr2.block w.heap.size (blk_lt hRV) fun e => by have := hvb _ e.symm; have := h.lt; omega).trans hRV
  obtain ⟨U, hU, bU, gU, fU⟩ := put_c hB2 2 v2
  refine ⟨v2, w2, hrun, ⟨⟨U, hU, ?_⟩, blk_cell hB2 2 rfl, fU, hsl⟩⟩
  have b2 : Below w.heap.size w w2 := (h.bel.trans (bwV.mono h.bel.size)).grown gr2 (by have := bwV.size; have := h.bel.size; omega) fun g hg => by have := hvb g hg; have := h.lt; omega
  exact ⟨by rw [bU]; rfl, (gU.block _ (blk_lt hR2) (by simp; have := h.lt; omega)).trans hR2, h.lt, sh2.out (F := fun g => g = S) (Out.of_grown gU fun g hg => by simp at hg; exact hg.symm) (fun g hg => by rw [hg]; omega), below_put b2 gU (by have := h.lt; omega) b2.size, h.hh, g4, g5, g6, by rw [List.length_append, List.length_singleton]; omega, h.num⟩

end Go.Proofs.YtkpnkknolobioaaGreat

/- The program's readHeader and readCommit (layer 19). -/
namespace Go.Proofs.YtkpnkknolobioaaGreat
open Go.RowKit
set_option linter.unusedVariables false

/-- A block that is written over by what it holds. -/
theorem zero_blk {S : Nat} {t : TypeId} {a b c : Value} (W : World) (h : W.heap[S]? = some (.cells #[a, b, c] t (0, 0))) : (W.setCell ⟨S, 0, none⟩ a = W ∧ W.setCell ⟨S, 1, none⟩ b = W ∧ W.setCell ⟨S, 2, none⟩ c = W) ∧ (W.frozen? ⟨S, 0, none⟩ = false ∧ W.frozen? ⟨S, 1, none⟩ = false ∧ W.frozen? ⟨S, 2, none⟩ = false) ∧ (W.cell? ⟨S, 0, none⟩ = some a ∧ W.cell? ⟨S, 1, none⟩ = some b ∧ W.cell? ⟨S, 2, none⟩ = some c) :=
  ⟨⟨set_same h (j := 0) rfl, set_same h (j := 1) rfl, set_same h (j := 2) rfl⟩, ⟨blk_froz h 0, blk_froz h 1, blk_froz h 2⟩, blk_cell h 0 rfl, blk_cell h 1 rfl, blk_cell h 2 rfl⟩

theorem put3at {V : World} {R : Nat} {t : TypeId} {cs : Array Value} (hR : V.heap[R]? = some (.cells cs t (0, 0))) (k : Nat) (c : Value) (hk : k < cs.size) :
    ∃ V', V.setCell ⟨R, k, none⟩ c = V' ∧ V'.heap[R]? = some (.cells (cs.setIfInBounds k c) t (0, 0)) ∧ V.grownBy V' (some R) ∧ V.cell? ⟨R, k, none⟩ = some cs[k] ∧ V.frozen? ⟨R, k, none⟩ = false := by
  obtain ⟨V', h1, h2, h3, h4⟩ := put_c hR k c
  exact ⟨V', h1, h2, h3, blk_cell hR k (Array.getElem?_eq_getElem hk), h4⟩

/-- In the midst of a header. -/
structure HI (bs : List Int) (w wr : World) (k x y m a : Nat) : Prop where
  res : wr.heap[w.heap.size]? = some (.cells #[.int .i64 0, .int .i64 0, .slice none 0 0] 25 (0, 0))
  num : wr.heap[w.heap.size + 1]? = some (.cells #[.int .i64 x, .int .i64 y, .int .i64 m] 97 (0, 0))
  bel : Below w.heap.size w wr
  at' : a = (if 1 ≤ k then Vm.sz x else 0) + (if 2 ≤ k then Vm.sz y else 0) + (if 3 ≤ k then Vm.sz m else 0)
  h1 : 1 ≤ k → x ≤ 1048576 ∧ Vm.enc x <+: bs
  h2 : 2 ≤ k → y ≤ 1048576 ∧ Vm.enc y <+: bs.drop (Vm.sz x)
  h3 : 3 ≤ k → m ≤ 1048576 ∧ Vm.enc m <+: bs.drop (Vm.sz x + Vm.sz y)

theorem HI.le {bs : List Int} {w wr : World} {k x y m a : Nat} (h : HI bs w wr k x y m a) : a ≤ bs.length := by
  have e := h.at'
  by_cases q3 : 3 ≤ k
  · have p3 := (h.h3 q3).2.length_le
    have p2 := (h.h2 (by omega)).2.length_le
    have p1 := (h.h1 (by omega)).2.length_le
    rw [if_pos (by omega), if_pos (by omega), if_pos q3] at e
    rw [List.length_drop] at p2 p3
    have e1 := (show (Vm.enc x).length = Vm.sz x from rfl); have e2 := (show (Vm.enc y).length = Vm.sz y from rfl); have e3 := (show (Vm.enc m).length = Vm.sz m from rfl)
    omega
  · rw [if_neg q3] at e
    by_cases q2 : 2 ≤ k
    · have p2 := (h.h2 q2).2.length_le
      have p1 := (h.h1 (by omega)).2.length_le
      rw [if_pos (by omega), if_pos q2] at e
      rw [List.length_drop] at p2
      have e1 := (show (Vm.enc x).length = Vm.sz x from rfl); have e2 := (show (Vm.enc y).length = Vm.sz y from rfl)
      omega
    · rw [if_neg q2] at e
      by_cases q1 : 1 ≤ k
      · have p1 := (h.h1 q1).2.length_le
        rw [if_pos q1] at e
        have e1 := (show (Vm.enc x).length = Vm.sz x from rfl)
        omega
      · rw [if_neg q1] at e
        omega

theorem HI.base {bs : List Int} {w wr V : World} {k x y m a : Nat} {cs : Array Value} (h : HI bs w wr k x y m a) (hV : V.heap[w.heap.size + 1]? = some (.cells cs 97 (0, 0))) (gV : wr.grownBy V (some (w.heap.size + 1))) :
    V.heap[w.heap.size]? = some (.cells #[.int .i64 0, .int .i64 0, .slice none 0 0] 25 (0, 0)) ∧ Below w.heap.size w V :=
  ⟨(gV.block _ (blk_lt h.res) (by simp)).trans h.res, below_put h.bel gV (by omega) h.bel.size⟩

theorem HI.next0 {bs : List Int} {w wr V : World} {x y m a z : Nat} (h : HI bs w wr 0 x y m a) (hz : z ≤ 1048576) (hp : Vm.enc z <+: bs.drop a) (hV : V.heap[w.heap.size + 1]? = some (.cells ((#[.int .i64 x, .int .i64 y, .int .i64 m] : Array Value).setIfInBounds 0 (.int .i64 z)) 97 (0, 0))) (gV : wr.grownBy V (some (w.heap.size + 1))) : HI bs w V 1 z y m (a + Vm.sz z) := by
  have e : a = 0 := by simpa using h.at'
  subst e
  exact ⟨(h.base hV gV).1, hV, (h.base hV gV).2, by simp, fun _ => ⟨hz, by simpa using hp⟩, fun q => by omega, fun q => by omega⟩
theorem HI.next1 {bs : List Int} {w wr V : World} {x y m a z : Nat} (h : HI bs w wr 1 x y m a) (hz : z ≤ 1048576) (hp : Vm.enc z <+: bs.drop a) (hV : V.heap[w.heap.size + 1]? = some (.cells ((#[.int .i64 x, .int .i64 y, .int .i64 m] : Array Value).setIfInBounds 1 (.int .i64 z)) 97 (0, 0))) (gV : wr.grownBy V (some (w.heap.size + 1))) : HI bs w V 2 x z m (a + Vm.sz z) := by
  have e : a = Vm.sz x := by simpa using h.at'
  subst e
  exact ⟨(h.base hV gV).1, hV, (h.base hV gV).2, by simp, fun _ => h.h1 (by omega), fun _ => ⟨hz, hp⟩, fun q => by omega⟩
theorem HI.next2 {bs : List Int} {w wr V : World} {x y m a z : Nat} (h : HI bs w wr 2 x y m a) (hz : z ≤ 1048576) (hp : Vm.enc z <+: bs.drop a) (hV : V.heap[w.heap.size + 1]? = some (.cells ((#[.int .i64 x, .int .i64 y, .int .i64 m] : Array Value).setIfInBounds 2 (.int .i64 z)) 97 (0, 0))) (gV : wr.grownBy V (some (w.heap.size + 1))) : HI bs w V 3 x y z (a + Vm.sz z) := by
  have e : a = Vm.sz x + Vm.sz y := by simpa using h.at'
  subst e
  exact ⟨(h.base hV gV).1, hV, (h.base hV gV).2, by simp, fun _ => h.h1 (by omega), fun _ => h.h2 (by omega), fun _ => ⟨hz, hp⟩⟩
theorem HI.no0 {bs : List Int} {w wr : World} {x y m a : Nat} (h : HI bs w wr 0 x y m a) (hn : ∀ u : Nat, u ≤ 1048576 → ¬ Vm.enc u <+: bs.drop a) : Orp.NoH bs := by
  have e : a = 0 := by simpa using h.at'
  subst e
  exact Orp.noh1 (by simpa using hn)
theorem HI.no1 {bs : List Int} {w wr : World} {x y m a : Nat} (h : HI bs w wr 1 x y m a) (hn : ∀ u : Nat, u ≤ 1048576 → ¬ Vm.enc u <+: bs.drop a) : Orp.NoH bs := by
  have e : a = Vm.sz x := by simpa using h.at'
  subst e
  exact Orp.noh2 (h.h1 (by omega)).2 hn
theorem HI.no2 {bs : List Int} {w wr : World} {x y m a : Nat} (h : HI bs w wr 2 x y m a) (hn : ∀ u : Nat, u ≤ 1048576 → ¬ Vm.enc u <+: bs.drop a) : Orp.NoH bs := by
  have e : a = Vm.sz x + Vm.sz y := by simpa using h.at'
  subst e
  exact Orp.noh3 (h.h1 (by omega)).2 (h.h2 (by omega)).2 hn

/-- What a header is. -/
def HdR (bs : List Int) (x y m : Nat) (g : Bool) : Prop := (g = true ∧ (x ≤ 1048576 ∧ y ≤ 1048576 ∧ m ≤ 1048576) ∧ Vm.enc x ++ (Vm.enc y ++ Vm.enc m) = bs) ∨ (g = false ∧ Orp.NoH bs)

set_option maxRecDepth 20000 in
set_option maxHeartbeats 4000000 in
theorem pohd_any (vb : Value) (bs : List Int) (w : World) (hb : Is .u8 w vb bs) (hl : bs.length ≤ 140737488355328) :
    Calls Tryz.prog 79 #[vb] w fun E w' => ∃ (x y m : Nat) (g : Bool), E = .returned (.tuple #[.agg #[.int .i64 x, .int .i64 y, .slice none 0 0], .int .i64 m, .bool g]) ∧ Hid (HdR bs x y m g) ∧ Below w.heap.size w w' := by
  obtain ⟨w1, hw1, sz1, bel1, hR1⟩ := blk_step w #[.int .i64 0, .int .i64 0, .slice none 0 0] 25
  obtain ⟨w2, hw2, sz2, bel2, hN2⟩ := blk_step w1 #[.int .i64 0, .int .i64 0, .int .i64 0] 97
  have hR2 := (bel2.block _ (blk_lt hR1)).trans hR1
  rw [sz1] at hN2
  have bel02 := bel1.trans (bel2.mono (by omega))
  have D0 : Hid (HI bs w w2 0 0 0 0 0) := hide ⟨hR2, hN2, bel02, by simp, fun q => by omega, fun q => by omega, fun q => by omega⟩
  have HB := hide hb
  have hlen := hb.len_run Tryz.elemB
  have ZERO : Hid (∀ W : World, W.heap[w.heap.size]? = some (.cells #[.int .i64 0, .int .i64 0, .slice none 0 0] 25 (0, 0)) → _) := hide fun W h => zero_blk W h
  obtain ⟨ao, cap, hvb, _, _⟩ := hb.shape
  rw [hvb] at HB
  subst hvb
  clear hR1 hR2 hN2 bel1 bel2 bel02 hb
  go_enter Tryz.func79, Tryz.ntmps79
  go_wp2
  go_loopw [6, 11] (fun ee kk wr => ∃ (k a x y m : Nat), k ≤ 3 ∧ kk = .int .i64 k ∧ ee = .int .i64 a ∧ Hid (HI bs w wr k x y m a)) (fun _ kk _ => 4 - (intOf kk).toNat)
  case atStart => exact ⟨0, 0, 0, 0, 0, by omega, rfl, rfl, D0⟩
  case round =>
    obtain ⟨k, a, x, y, m, hk, rfl, rfl, D⟩ := hrel
    have hal := D.out.le
    have lt0 := blk_lt D.out.res
    clear D0
    rcases (show k = 0 ∨ k = 1 ∨ k = 2 ∨ k = 3 by omega) with rfl | rfl | rfl | rfl
    · obtain ⟨vs, hsl, isl⟩ := (HB.out.below D.out.bel).slice_l Tryz.elemB Tryz.sizeE a hal
      obtain ⟨u, i, g, hS⟩ := sres_is (bs.drop a) ((1048576 : Nat) : Int)
      have SM := hide (small_any vs (bs.drop a) 1048576 u i g wr isl (by rw [List.length_drop]; omega) (by omega) (by omega) hS)
      have ST := hide (sres_step (most := 1048576) (by omega) hS)
      clear isl hS
      go_wp2_with fail
      refine SM.out.mono ?_
      rintro E w4 ⟨rfl, rfl⟩
      clear hsl SM
      rcases ST.out with ⟨z, rfl, rfl, rfl, hz, hp⟩ | ⟨rfl, rfl, rfl, hn⟩
      · have hs10 := Vm.sz_le10 (x := z) (by omega)
        have hwr := wrap_i64_small ((a : Int) + (Vm.sz z : Int)) (by omega) (by omega)
        obtain ⟨V, hV, bV, gV, cz, fz⟩ := put3at D.out.num 0 (.int .i64 z) (by simp)
        have DN : Hid (HI bs w V 1 z y m (a + Vm.sz z)) := hide (D.out.next0 hz hp bV gV)
        clear bV gV hp D ST
        go_wp2
        go_roundw
        case rel => exact ⟨1, a + Vm.sz z, z, y, m, by omega, rfl, by go_num, DN⟩
        case measure => simp [intOf]
      · have HN := hide (D.out.no0 hn)
        obtain ⟨⟨s0, s1, s2⟩, ⟨f0, f1, f2⟩, z0, z1, z2⟩ := ZERO.out wr D.out.res
        have BB := hide D.out.bel
        clear hn D ST
        go_wp2
        refine bodyPost_ret (v := .tuple #[.agg #[.int .i64 0, .int .i64 0, .slice none 0 0], .int .i64 0, .bool false]) (by simp [results, Tryz.results79, go_sem, z0, z1, z2]) rfl ?_
        exact ⟨0, 0, 0, false, rfl, hide (.inr ⟨rfl, HN.out⟩), BB.out⟩
    · obtain ⟨vs, hsl, isl⟩ := (HB.out.below D.out.bel).slice_l Tryz.elemB Tryz.sizeE a hal
      obtain ⟨u, i, g, hS⟩ := sres_is (bs.drop a) ((1048576 : Nat) : Int)
      have SM := hide (small_any vs (bs.drop a) 1048576 u i g wr isl (by rw [List.length_drop]; omega) (by omega) (by omega) hS)
      have ST := hide (sres_step (most := 1048576) (by omega) hS)
      clear isl hS
      go_wp2_with fail
      refine SM.out.mono ?_
      rintro E w4 ⟨rfl, rfl⟩
      clear hsl SM
      rcases ST.out with ⟨z, rfl, rfl, rfl, hz, hp⟩ | ⟨rfl, rfl, rfl, hn⟩
      · have hs10 := Vm.sz_le10 (x := z) (by omega)
        have hwr := wrap_i64_small ((a : Int) + (Vm.sz z : Int)) (by omega) (by omega)
        obtain ⟨V, hV, bV, gV, cz, fz⟩ := put3at D.out.num 1 (.int .i64 z) (by simp)
        have DN : Hid (HI bs w V 2 x z m (a + Vm.sz z)) := hide (D.out.next1 hz hp bV gV)
        clear bV gV hp D ST
        go_wp2
        go_roundw
        case rel => exact ⟨2, a + Vm.sz z, x, z, m, by omega, rfl, by go_num, DN⟩
        case measure => simp [intOf]
      · have HN := hide (D.out.no1 hn)
        obtain ⟨⟨s0, s1, s2⟩, ⟨f0, f1, f2⟩, z0, z1, z2⟩ := ZERO.out wr D.out.res
        have BB := hide D.out.bel
        clear hn D ST
        go_wp2
        refine bodyPost_ret (v := .tuple #[.agg #[.int .i64 0, .int .i64 0, .slice none 0 0], .int .i64 0, .bool false]) (by simp [results, Tryz.results79, go_sem, z0, z1, z2]) rfl ?_
        exact ⟨0, 0, 0, false, rfl, hide (.inr ⟨rfl, HN.out⟩), BB.out⟩
    · obtain ⟨vs, hsl, isl⟩ := (HB.out.below D.out.bel).slice_l Tryz.elemB Tryz.sizeE a hal
      obtain ⟨u, i, g, hS⟩ := sres_is (bs.drop a) ((1048576 : Nat) : Int)
      have SM := hide (small_any vs (bs.drop a) 1048576 u i g wr isl (by rw [List.length_drop]; omega) (by omega) (by omega) hS)
      have ST := hide (sres_step (most := 1048576) (by omega) hS)
      clear isl hS
      go_wp2_with fail
      refine SM.out.mono ?_
      rintro E w4 ⟨rfl, rfl⟩
      clear hsl SM
      rcases ST.out with ⟨z, rfl, rfl, rfl, hz, hp⟩ | ⟨rfl, rfl, rfl, hn⟩
      · have hs10 := Vm.sz_le10 (x := z) (by omega)
        have hwr := wrap_i64_small ((a : Int) + (Vm.sz z : Int)) (by omega) (by omega)
        obtain ⟨V, hV, bV, gV, cz, fz⟩ := put3at D.out.num 2 (.int .i64 z) (by simp)
        have DN : Hid (HI bs w V 3 x y z (a + Vm.sz z)) := hide (D.out.next2 hz hp bV gV)
        clear bV gV hp D ST
        go_wp2
        go_roundw
        case rel => exact ⟨3, a + Vm.sz z, x, y, z, by omega, rfl, by go_num, DN⟩
        case measure => simp [intOf]
      · have HN := hide (D.out.no2 hn)
        obtain ⟨⟨s0, s1, s2⟩, ⟨f0, f1, f2⟩, z0, z1, z2⟩ := ZERO.out wr D.out.res
        have BB := hide D.out.bel
        clear hn D ST
        go_wp2
        refine bodyPost_ret (v := .tuple #[.agg #[.int .i64 0, .int .i64 0, .slice none 0 0], .int .i64 0, .bool false]) (by simp [results, Tryz.results79, go_sem, z0, z1, z2]) rfl ?_
        exact ⟨0, 0, 0, false, rfl, hide (.inr ⟨rfl, HN.out⟩), BB.out⟩
    · have e : a = Vm.sz x + Vm.sz y + Vm.sz m := by simpa using D.out.at'
      by_cases hae : a = bs.length
      · have hab : ((a : Int) != (bs.length : Int)) = false := by simp [hae]
        have HH : Hid (HdR bs x y m true) := hide (.inl ⟨rfl, ⟨(D.out.h1 (by omega)).1, (D.out.h2 (by omega)).1, (D.out.h3 (by omega)).1⟩, Orp.hdr_is (D.out.h1 (by omega)).2 (D.out.h2 (by omega)).2 (D.out.h3 (by omega)).2 (by omega)⟩)
        obtain ⟨Z, hZ, bZ, gZ, ⟨a0, a1, a2⟩, ⟨f0, f1, f2⟩, z0, z1, z2⟩ := res_step D.out.res (.int .i64 x) (.int .i64 y) (.slice none 0 0)
        have n0 : wr.cell? ⟨w.heap.size + 1, 0, none⟩ = some (.int .i64 x) := blk_cell D.out.num 0 rfl
        have n1 : wr.cell? ⟨w.heap.size + 1, 1, none⟩ = some (.int .i64 y) := blk_cell D.out.num 1 rfl
        have n2 : wr.cell? ⟨w.heap.size + 1, 2, none⟩ = some (.int .i64 m) := blk_cell D.out.num 2 rfl
        have m2 : Z.cell? ⟨w.heap.size + 1, 2, none⟩ = some (.int .i64 m) := blk_cell ((gZ.block _ (blk_lt D.out.num) (by simp)).trans D.out.num) 2 rfl
        have BZ := hide (below_put D.out.bel gZ (Nat.le_refl _) D.out.bel.size)
        clear D ZERO bZ gZ hae e hlen
        go_wp2
        go_region
        go_wp2
        refine bodyPost_ret (v := .tuple #[.agg #[.int .i64 x, .int .i64 y, .slice none 0 0], .int .i64 m, .bool true]) (by simp [results, Tryz.results79, go_sem, z0, z1, z2]) rfl ?_
        exact ⟨x, y, m, true, rfl, HH, below_drewN BZ.out 1⟩
      · have hab : ((a : Int) != (bs.length : Int)) = true := by simp; omega
        have HN : Hid (Orp.NoH bs) := hide (Orp.noh4 (D.out.h1 (by omega)).2 (D.out.h2 (by omega)).2 (D.out.h3 (by omega)).2 (by omega))
        obtain ⟨⟨s0, s1, s2⟩, ⟨f0, f1, f2⟩, z0, z1, z2⟩ := ZERO.out wr D.out.res
        have BB := hide D.out.bel
        clear D ZERO e
        go_wp2
        refine bodyPost_ret (v := .tuple #[.agg #[.int .i64 0, .int .i64 0, .slice none 0 0], .int .i64 0, .bool false]) (by simp [results, Tryz.results79, go_sem, z0, z1, z2]) rfl ?_
        exact ⟨0, 0, 0, false, rfl, hide (.inr ⟨rfl, HN.out⟩), BB.out⟩

/-- What a commit's frame is read as. -/
def CmO (w : World) (bs : List Int) (E : Ending) (w' : World) : Prop :=
  ∃ (c : Cw) (n : Nat) (g : Bool), E = .returned (.tuple #[.agg #[.int .i64 c.e, .int .i64 c.n, c.v], .int .i64 n, .bool g]) ∧ Hid (OwnO 93 w.heap.size w' c.v c.l ∧ Below w.heap.size w w' ∧
    ((g = true ∧ ∃ r, Fm.Rd bs r n 0 ∧ Cm.CRes r c.e c.n c.l 0) ∨ (g = false ∧ ((∃ r n e, Fm.Rd bs r n e ∧ e ≠ 0) ∨ ∃ r n e k l g, Fm.Rd bs r n 0 ∧ Cm.CRes r e k l g ∧ g ≠ 0))))

set_option maxRecDepth 20000 in
set_option maxHeartbeats 4000000 in
theorem pocm_any (vb : Value) (bs : List Int) (w : World) (hb : Is .u8 w vb bs) (hl : bs.length ≤ 140737488355328) : Calls Tryz.prog 80 #[vb] w (CmO w bs) := by
  obtain ⟨w1, hw1, sz1, bel1, hR1⟩ := blk_step w #[.int .i64 0, .int .i64 0, .slice none 0 0] 59
  have F1 := hide (fread_any vb bs w1 (hb.below bel1) (by omega))
  obtain ⟨ao, cap, hvb, _, _⟩ := hb.shape
  rw [hvb] at F1
  subst hvb
  have B1 := hide bel1
  have R1 := hide hR1
  clear hb hR1 bel1
  go_enter Tryz.func80, Tryz.ntmps80
  go_wp2_with fail
  refine F1.out.mono ?_
  rintro E w2 ⟨vh, hs, n0, e0, rfl, ownh, bel2, HRd⟩
  have hR2 := (bel2.block w.heap.size (by omega)).trans R1.out
  have B2 := hide (B1.out.trans (bel2.mono B1.out.size))
  obtain ⟨ah, ch, hvh, _, _⟩ := ownh.is.shape
  clear F1
  by_cases he0 : e0 = 0
  · subst he0
    have CD := hide (cdec_any vh hs w2 ownh.is (by
      rcases HRd.out with ⟨_, h1, _⟩ | ⟨h1, _⟩
      · omega
      · simp at h1))
    rw [hvh] at CD
    subst hvh
    clear ownh
    go_wp2_with fail
    refine CD.out.mono ?_
    rintro E w3 ⟨ce, cn, g, cv, cl, rfl, own3, HCR, bel3⟩
    unfold cmv
    obtain ⟨ca, ck, hcv, _, _⟩ := own3.is.shape
    have hR3 := (bel3.block _ (blk_lt hR2)).trans hR2
    have B3 := B2.out.trans (bel3.mono B2.out.size)
    obtain ⟨Z, hZ, bZ, gZ, ⟨a0, a1, a2⟩, ⟨f0, f1, f2⟩, z0, z1, z2⟩ := res_step hR3 (.int .i64 ce) (.int .i64 cn) cv
    have BZ := hide (below_put B3 gZ (Nat.le_refl _) B3.size)
    have OZ := hide ((own3.keptg gZ (blk_lt hR2)).rebase (base' := w.heap.size) B2.out.size)
    have CR := hide HCR
    have ZB := hide bZ
    obtain ⟨⟨s0, s1, s2⟩, ⟨g0, g1, g2⟩, _⟩ := zero_blk Z bZ
    rw [hcv] at hZ z2 OZ ZB s2
    subst hcv
    clear CD bel3 own3 HCR hR3 B3 gZ bZ bel2 hR2
    by_cases hg : g = 0
    · subst hg
      clear ZB
      go_wp2
      refine bodyPost_ret (v := .tuple #[.agg #[.int .i64 ce, .int .i64 cn, .slice ca cl.length ck], .int .i64 n0, .bool true]) (by simp [results, Tryz.results80, go_sem, z0, z1, z2]) rfl ?_
      exact ⟨⟨ce, cn, .slice ca cl.length ck, cl⟩, n0, true, rfl, hide ⟨OZ.out, BZ.out, .inl ⟨rfl, hs, HRd.out, CR.out⟩⟩⟩
    · have hgb : (g != 0) = true := by simp [hg]
      have NO := hide hg
      obtain ⟨Y, hY, bY, gY, _, _, y0, y1, y2⟩ := res_step ZB.out (.int .i64 0) (.int .i64 0) (.slice none 0 0)
      have BY := hide (below_put BZ.out gY (Nat.le_refl _) BZ.out.size)
      clear ZB gY bY hg
      go_wp2
      refine bodyPost_ret (v := .tuple #[.agg #[.int .i64 0, .int .i64 0, .slice none 0 0], .int .i64 0, .bool false]) (by simp [results, Tryz.results80, go_sem, y0, y1, y2]) rfl ?_
      exact ⟨⟨0, 0, .slice none 0 0, []⟩, 0, false, rfl, hide ⟨OwnO.nil _ _ _, BY.out, .inr ⟨rfl, .inr ⟨hs, n0, ce, cn, cl, g, HRd.out, CR.out, NO.out⟩⟩⟩⟩
  · have heb : (e0 != 0) = true := by simp [he0]
    obtain ⟨⟨s0, s1, s2⟩, ⟨f0, f1, f2⟩, z0, z1, z2⟩ := zero_blk w2 hR2
    have NO := hide he0
    subst hvh
    clear ownh bel2 hR2 he0
    go_wp2
    refine bodyPost_ret (v := .tuple #[.agg #[.int .i64 0, .int .i64 0, .slice none 0 0], .int .i64 0, .bool false]) (by simp [results, Tryz.results80, go_sem, z0, z1, z2]) rfl ?_
    exact ⟨⟨0, 0, .slice none 0 0, []⟩, 0, false, rfl, hide ⟨OwnO.nil _ _ _, B2.out, .inr ⟨rfl, .inl ⟨hs, n0, e0, HRd.out, NO.out⟩⟩⟩⟩

end Go.Proofs.YtkpnkknolobioaaGreat

/- An element of a list. No program. -/
namespace Go.Proofs.YtkpnkknolobioaaGreat

theorem at_of {α : Type} {l : List α} {k : Nat} (h : k < l.length) : ∃ s, l[k]? = some s := ⟨l[k], List.getElem?_eq_getElem h⟩

end Go.Proofs.YtkpnkknolobioaaGreat

/- The contracts of overOps and ApartOps. -/
namespace Go.Proofs.YtkpnkknolobioaaGreat
open Go.RowKit
set_option linter.unusedVariables false

/-- An op whose key is written over. -/
def til (o : Bm.Ov) : Bm.Ov := ⟨o.p, o.k ++ ⟨#[126]⟩, o.v⟩

/-- The first k written over. -/
def mid (l : List Bm.Ov) (k : Nat) : List Bm.Ov := (l.map til).take k ++ l.drop k

theorem mid_len (l : List Bm.Ov) (k : Nat) (h : k ≤ l.length) : (mid l k).length = l.length := by
  unfold mid
  rw [List.length_append, List.length_take, List.length_map, List.length_drop]
  omega

theorem mid_split (l : List Bm.Ov) (k : Nat) (h : k < l.length) : mid l k = (l.map til).take k ++ l[k] :: l.drop (k + 1) := by
  unfold mid
  rw [List.drop_eq_getElem_cons h]

theorem mid_next (l : List Bm.Ov) (k : Nat) (h : k < l.length) : mid l (k + 1) = (l.map til).take k ++ til l[k] :: l.drop (k + 1) := by
  unfold mid
  rw [List.take_succ_eq_append_getElem (by simpa using h), List.getElem_map, List.append_assoc]
  rfl

theorem midO_at (l : List Bm.Ov) (k : Nat) (h : k < l.length) : (ocells (mid l k))[k * 3 + 1]? = some (.string l[k].k) := by
  have hl : (ocells ((l.map til).take k)).length = k * 3 := by rw [ocells_len, List.length_take, List.length_map]; omega
  rw [mid_split l k h, ocells_app, List.getElem?_append_right (by omega), hl, show k * 3 + 1 - k * 3 = 1 by omega]
  rfl

theorem midO_set (l : List Bm.Ov) (k : Nat) (h : k < l.length) : (ocells (mid l k)).set (k * 3 + 1) (.string (l[k].k ++ ⟨#[126]⟩)) = ocells (mid l (k + 1)) := by
  have hl : (ocells ((l.map til).take k)).length = k * 3 := by rw [ocells_len, List.length_take, List.length_map]; omega
  rw [mid_split l k h, mid_next l k h, ocells_app, ocells_app, List.set_append_right _ _ (by omega), hl, show k * 3 + 1 - k * 3 = 1 by omega]
  rfl

/-- What stands in the spare room then. -/
def overC : List Value := [.bool false, .string ⟨#[111, 118, 101, 114]⟩, .string ⟨#[]⟩]

theorem cells_three_new (w : World) (x y z : Value) (t : TypeId) : ∀ j u, [x, y, z][j]? = some u → (w.alloc (.cells #[x, y, z] t)).cell? ((⟨w.heap.size, 0, none⟩ : Addr).add j) = some u := by
  intro j u hj
  rw [add_at]
  match j, hj with
  | 0, hj => simpa using hj
  | 1, hj => simpa using hj
  | 2, hj => simpa using hj
  | n + 3, hj => simp at hj

theorem own_frontO {w : World} {base e g n cap : Nat} {xs : List Value} (h : w.ownsRow base e 3 (.slice (some ⟨g, 0, none⟩) n cap) n xs) (m : Nat) (hm : m ≤ n) : w.ownsRow base e 3 (.slice (some ⟨g, 0, none⟩) m cap) m (xs.take (m * 3)) := by
  obtain ⟨h1, h2⟩ := h
  refine ⟨by rw [List.length_take]; omega, ?_⟩
  rcases h2 with ⟨h', _⟩ | ⟨g', cap', cur, h', hb, hg, hnc, hcm, hcs, htake⟩
  · simp at h'
  · simp only [Value.slice.injEq, Option.some.injEq, Addr.mk.injEq, and_true, true_and] at h'
    obtain ⟨rfl, rfl⟩ := h'
    refine .inr ⟨g, cap, cur, rfl, hb, hg, by omega, hcm, hcs, ?_⟩
    rw [← htake, List.take_take]
    congr 1
    omega

theorem Tryz.info57 : (Tryz.prog.info? 57).map (fun i => (i.zero, i.size, i.bytes)) = some (some (.slice none 0 0), 1, 24) := by kernel_rfl

theorem sameO_bool (va vb : Value) (xs : List Bm.Ov) (w : World) (ha : IsO w va xs) (hb : IsO w vb xs) (hl : xs.length ≤ 140737488355328) :
    Calls Tryz.prog 70 #[va, vb] w fun e w' => e = .returned (.bool true) ∧ ∃ m, w' = w.drewN m := by
  have := sameO_quiet va vb xs xs w ha hb hl hl
  rw [Bm.sameL_self] at this
  exact this

/-- What the lists are, ahead of ApartOps. -/
structure ListsO (m bl base : Nat) (w : World) (vs : Nat → Value) (zs : Nat → List Bm.Ov) : Prop where
  cell : ∀ i, i < m → w.cell? ⟨bl, i, none⟩ = some (vs i)
  own : ∀ i, i < m → OwnO 93 base w (vs i) (zs i)
  apart : ∀ i j, i < m → j < m → i ≠ j → (vs i).ownBlock = none ∨ (vs i).ownBlock ≠ (vs j).ownBlock
  table : ∀ i, i < m → (vs i).ownBlock ≠ some bl
  lens : ∀ i, i < m → (zs i).length ≤ 2000
  fit : ∀ i, i < m → FitO (zs i)

/-- A block that one of the lists has. -/
def OwnsB (m : Nat) (vs : Nat → Value) (g : Nat) : Prop := ∃ i, i < m ∧ (vs i).ownBlock = some g

/-- Behind the first loop: a copy of each. -/
structure CopiesO (m bl base : Nat) (w0 wr : World) (vs us : Nat → Value) (zs : Nat → List Bm.Ov) (k : Nat) : Prop where
  cell : ∀ i, i < m → wr.cell? ⟨bl, i, none⟩ = some (vs i)
  was : ∀ i, i < m → wr.cell? ⟨w0.heap.size, i, none⟩ = some (us i)
  new : ∀ i, i < m → OwnO 93 (w0.heap.size + 1) wr (us i) (zs i)
  done : ∀ i, i < k → i < m → OwnO 93 base wr (vs i) ((zs i).map til)
  left : ∀ i, k ≤ i → i < m → OwnO 93 base wr (vs i) (zs i)
  below : Out (OwnsB m vs) w0 wr

theorem copiesO_step {m B k : Nat} {w wr w1 : World} {xs : List Value} {u : Value} {zs : Nat → List Bm.Ov} (hk : k < m) (ho : w1.ownsRow B 57 1 (.slice (some ⟨B, 0, none⟩) m m) m xs)
    (hc : ∀ j, j < k → OwnO 93 (B + 1) wr (xs.getD j (.slice none 0 0)) (zs j)) (bel : Below B w wr) (hs : B < wr.heap.size) (ownu : OwnO 93 wr.heap.size w1 u (zs k)) (belu : Below wr.heap.size wr w1) :
    (w1.setCell ⟨B, k, none⟩ u).ownsRow B 57 1 (.slice (some ⟨B, 0, none⟩) m m) m (xs.set k u) ∧ (∀ j, j < k + 1 → OwnO 93 (B + 1) (w1.setCell ⟨B, k, none⟩ u) ((xs.set k u).getD j (.slice none 0 0)) (zs j)) ∧
      Below B w (w1.setCell ⟨B, k, none⟩ u) ∧ B < (w1.setCell ⟨B, k, none⟩ u).heap.size := by
  have hst := ho.stored k u
  have hl : xs.length = m := by have := ho.1; omega
  refine ⟨hst.1, fun j hj => ?_, (bel.trans (belu.mono (by omega))).setCell (Nat.le_refl _) _, ?_⟩
  · by_cases hjk : j = k
    · subst hjk
      have e : (xs.set j u).getD j (.slice none 0 0) = u := by simp [hl, hk]
      rw [e]
      refine (ownu.rebase (by omega)).kept hst.2 ?_
      cases hb : u.ownBlock with
      | none => exact .inl rfl
      | some b => exact .inr (by have := ownu.block b hb; simp; omega)
    · have e : (xs.set k u).getD j (.slice none 0 0) = xs.getD j (.slice none 0 0) := by
        simp [List.getD, List.getElem?_set_ne (Ne.symm hjk)]
      rw [e]
      have h1 := hc j (by omega)
      refine (h1.below belu).kept hst.2 ?_
      cases hb : (xs.getD j (.slice none 0 0)).ownBlock with
      | none => exact .inl rfl
      | some b => exact .inr (by have := h1.block b hb; simp; omega)
  · have := hst.2.size
    have := belu.size
    omega

theorem copiesO_start {m bl B base : Nat} {w wr : World} {xs : List Value} {vs : Nat → Value} {zs : Nat → List Bm.Ov} (hB : B = w.heap.size) (hm0 : 0 < m) (hbase : base ≤ B) (H : ListsO m bl base w vs zs) (ho : wr.ownsRow B 57 1 (.slice (some ⟨B, 0, none⟩) m m) m xs)
    (hc : ∀ j, j < m → OwnO 93 (B + 1) wr (xs.getD j (.slice none 0 0)) (zs j)) (bel : Below B w wr) : CopiesO m bl base w wr vs (fun j => xs.getD j (.slice none 0 0)) zs 0 := by
  subst hB
  have hl : xs.length = m := by have := ho.1; omega
  exact ⟨fun i hi => (bel.cell (p := ⟨bl, i, none⟩) (World.block_lt_of_cell? _ _ (H.cell i hi))).trans (H.cell i hi),
    fun i hi => by rw [ho.cellAt i (by omega)]; simp [List.getD, List.getElem?_eq_getElem (show i < xs.length by omega)],
    hc, fun i h0 => absurd h0 (by omega), fun i _ hi => (H.own i hi).below bel, Out.of_below bel⟩

theorem copiesO_over {m bl base k : Nat} {w wr w2 : World} {vs us : Nat → Value} {zs : Nat → List Bm.Ov} (hk : k < m) (hbase : base ≤ w.heap.size) (hsz : w.heap.size ≤ wr.heap.size) (H : ListsO m bl base w vs zs) (C : CopiesO m bl base w wr vs us zs k)
    (ho : OwnO 93 base w2 (vs k) ((zs k).map til)) (hg : wr.grownBy w2 (vs k).ownBlock) : CopiesO m bl base w w2 vs us zs (k + 1) := by
  have hvk : ∀ b, (vs k).ownBlock = some b → base ≤ b ∧ b < w.heap.size := (H.own k hk).block
  have other : ∀ i, i < m → i ≠ k → (vs i).ownBlock = none ∨ (vs i).ownBlock ≠ (vs k).ownBlock := fun i hi hne => H.apart i k hi hk hne
  refine ⟨fun i hi => hg.cell (C.cell i hi) (fun e => H.table k hk e.symm), fun i hi => hg.cell (C.was i hi) (fun e => by have := hvk _ e.symm; simp at this), fun i hi => (C.new i hi).kept hg ?_, fun i h1 hi => ?_, fun i h1 hi => ?_, ?_⟩
  · cases hb : (us i).ownBlock with
    | none => exact .inl rfl
    | some b =>
      refine .inr fun e => ?_
      have h1 := (C.new i hi).block b hb
      have h2 := hvk b e.symm
      omega
  · by_cases e : i = k
    · subst e; exact ho
    · exact (C.done i (by omega) hi).kept hg (other i hi e)
  · exact (C.left i (by omega) hi).kept hg (other i hi (by omega))
  · exact C.below.trans (Out.of_grown hg (fun b hb => ⟨k, hk, hb⟩)) (fun g h => .inl h)

/-- Two lists in a table. -/
def duo {α : Type} (a b : α) : Nat → α | 0 => a | _ => b

theorem listsO_two {base : Nat} {w : World} {va vf : Value} {za zf : List Bm.Ov} {s1 : Nat} (ha : OwnO 93 s1 w va za) (hf : OwnO 93 base w vf zf)
    (h1 : ∀ b, vf.ownBlock = some b → b < s1) (hb1 : base ≤ s1) (la : za.length ≤ 2000) (lf : zf.length ≤ 2000) (fa : FitO za) (ff : FitO zf) :
    ListsO 2 w.heap.size base (w.alloc (.cells #[vf, va] 57)) (duo vf va) (duo zf za) := by
  have bel : Below w.heap.size w (w.alloc (.cells #[vf, va] 57)) := (Below.refl _ _).alloc (Nat.le_refl _) _
  have ha' := (ha.below bel).rebase (by omega : base ≤ s1)
  have hf' := hf.below bel
  have two : ∀ i, i < 2 → i = 0 ∨ i = 1 := by omega
  have ba := ha.block
  have bf := hf.block
  refine ⟨fun i hi => ?_, fun i hi => ?_, fun i j hi hj hne => ?_, fun i hi => ?_, fun i hi => ?_, fun i hi => ?_⟩
  · rcases two i hi with rfl | rfl <;> simp [duo]
  · rcases two i hi with rfl | rfl
    · exact hf'
    · exact ha'
  · have key : ∀ u v : Value, (∀ b d, u.ownBlock = some b → v.ownBlock = some d → b ≠ d) → u.ownBlock = none ∨ u.ownBlock ≠ v.ownBlock := by
      intro u v h
      cases hu : u.ownBlock with
      | none => exact .inl rfl
      | some b => exact .inr fun e => h b b hu e.symm rfl
    rcases two i hi with rfl | rfl <;> rcases two j hj with rfl | rfl <;> first | exact absurd rfl hne | skip
    all_goals
      refine key _ _ fun b d hb hd => ?_
      simp only [duo] at hb hd
    · have := h1 b hb; have := ba d hd; omega
    · have := ba b hb; have := h1 d hd; omega
  · intro e
    rcases two i hi with rfl | rfl
    · have := bf _ e; omega
    · have := ba _ e; omega
  · rcases two i hi with rfl | rfl
    · exact lf
    · exact la
  · rcases two i hi with rfl | rfl
    · exact ff
    · exact fa

end Go.Proofs.YtkpnkknolobioaaGreat
