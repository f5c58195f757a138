/- Texts of one layer, one behind the other. -/
import Derived.Test.YtkpnkknolobioaaGreatG14
import Derived.Test.YtkpnkknolobioaaGreatG8
import Derived.Test.YtkpnkknolobioaaGreatG10
import Derived.Test.YtkpnkknolobioaaGreatG5
import Derived.Test.YtkpnkknolobioaaGreatG13
/- The contracts of OpsOf and overCommits. -/
namespace Go.Proofs.YtkpnkknolobioaaGreat
open Go.RowKit
set_option linter.unusedVariables false

/-- A value alone. -/
def one (v : Value) : List Value := [v]
theorem one_len (v : Value) : (one v).length = 1 := rfl

theorem gcells_one : ∀ (m : List Value), gcells one m = m
  | [] => rfl
  | v :: m => by
    have := gcells_one m
    simp only [gcells, one] at this ⊢
    rw [this]
    rfl

theorem row_keepT {e e' base size n : Nat} {w w' : World} {v : Value} {xs : List Value} (h : w.ownsRow base e size v n xs) (k : KeepT e' w w') (hne : e ≠ e') : w'.ownsRow base e size v n xs := by
  refine ⟨h.1, ?_⟩
  rcases h.2 with h | ⟨g, cap, cur, hv, h1, hh, r⟩
  · exact .inl h
  · exact .inr ⟨g, cap, cur, hv, h1, k _ _ _ _ hh hne, r⟩

theorem lls_step (w : World) (v : Value) : ∃ W, w.alloc (.cells #[v] 57) = W ∧ W.heap.size = w.heap.size + 1 ∧ Below w.heap.size w W ∧ OwnG one 1 57 w.heap.size W (.slice (some ⟨w.heap.size, 0, none⟩) 1 1) [v] :=
  rows_step one 1 one_len 57 w #[v] 1 [v] rfl rfl (by simp [maxLen])

/-- An epoch that is written over. -/
def nt (x : Int) : Int := bits BinOp.xor IntKind.i64 (if IntKind.i64.signed = true then -1 else 9223372036854775807) x
/-- A commit whose epoch is written over. -/
def ntC (c : Cw) : Cw := ⟨nt c.e, c.n, c.v, c.l⟩

/-- The first k written over. -/
def midC (l : List Cw) (k : Nat) : List Cw := (l.map ntC).take k ++ l.drop k

theorem midC_split (l : List Cw) (k : Nat) (h : k < l.length) : midC l k = (l.map ntC).take k ++ l[k] :: l.drop (k + 1) := by
  unfold midC
  rw [List.drop_eq_getElem_cons h]

theorem midC_next (l : List Cw) (k : Nat) (h : k < l.length) : midC l (k + 1) = (l.map ntC).take k ++ ntC l[k] :: l.drop (k + 1) := by
  unfold midC
  rw [List.take_succ_eq_append_getElem (by simpa using h), List.getElem_map, List.append_assoc]
  rfl

theorem midC_at (l : List Cw) (k : Nat) (h : k < l.length) : (ccells (midC l k))[k * 3]? = some (.int .i64 l[k].e) := by
  have hl : (ccells ((l.map ntC).take k)).length = k * 3 := by rw [ccells_len, List.length_take, List.length_map]; omega
  rw [midC_split l k h, ccells_app, List.getElem?_append_right (by omega), hl, show k * 3 - k * 3 = 0 by omega]
  rfl

theorem midC_set (l : List Cw) (k : Nat) (h : k < l.length) : (ccells (midC l k)).set (k * 3) (.int .i64 (nt l[k].e)) = ccells (midC l (k + 1)) := by
  have hl : (ccells ((l.map ntC).take k)).length = k * 3 := by rw [ccells_len, List.length_take, List.length_map]; omega
  rw [midC_split l k h, midC_next l k h, ccells_app, ccells_app, List.set_append_right _ _ (by omega), hl, show k * 3 - k * 3 = 0 by omega]
  rfl

/-- What stands in the spare room then. -/
def overK : List Value := [.int .i64 99, .int .i64 0, .slice none 0 0]

end Go.Proofs.YtkpnkknolobioaaGreat

/- Sections that were read; the document's Scan and Has (layer 19). -/
namespace Go.Proofs.YtkpnkknolobioaaGreat
open Go.RowKit
set_option linter.unusedVariables false

theorem Tryz.info25 : (Tryz.prog.info? 25).map (fun i => (i.zero, i.size, i.bytes)) = some (some (.agg #[.int .i64 0, .int .i64 0, .slice none 0 0]), 3, 40) := by kernel_rfl
theorem Tryz.elemSe : Tryz.prog.underlying 53 = some (.slice (Tryz.prog.elem 53)) := by kernel_rfl
theorem Tryz.sizeSe (wx : World) : (sizeOf (Tryz.prog.elem 53)).run Tryz.prog wx = .ok 3 wx := by kernel_rfl

/-- The blocks of a section. -/
def SwB (x : Sw) (g : Nat) : Prop := x.v.ownBlock = some g ∨ ∃ c ∈ x.rs, c.v.ownBlock = some g

/-- Sections in memory of their own. -/
structure OwnSe (b : Nat) (w : World) (v : Value) (l : List Sw) : Prop where
  r : OwnR 25 b w v (swc l)
  o : ∀ x ∈ l, ShS b w x.v x.rs
  i : ∀ x ∈ l, In64 x.e ∧ In64 x.f
  ap : ∀ (i j : Nat) (x y : Sw), i < j → l[i]? = some x → l[j]? = some y → ∀ g, SwB x g → ¬ SwB y g

theorem OwnSe.nil (b : Nat) (w : World) : OwnSe b w (.slice none 0 0) [] := ⟨OwnR.nil _ _ _, fun x hx => by simp at hx, fun x hx => by simp at hx, fun i j x y _ h => by simp at h⟩
theorem OwnSe.below {b : Nat} {w w' : World} {v : Value} {l : List Sw} (h : OwnSe b w v l) (hb : Below w.heap.size w w') : OwnSe b w' v l := ⟨h.r.below hb, fun x hx => (h.o x hx).below hb, h.i, h.ap⟩
theorem ShS.isC {b : Nat} {w : World} {v : Value} {cs : List Cw} (h : ShS b w v cs) : IsC w v cs := ⟨h.c.row, fun c hc => ⟨(h.o c hc).is, h.i c hc⟩⟩
theorem OwnSe.is {b : Nat} {w : World} {v : Value} {l : List Sw} (h : OwnSe b w v l) : IsSe w v l := ⟨h.r.row, fun x hx => ⟨(h.o x hx).isC, h.i x hx⟩⟩
theorem ShS.lt {b : Nat} {w : World} {x : Sw} (h : ShS b w x.v x.rs) : ∀ g, SwB x g → b ≤ g ∧ g < w.heap.size := by
  rintro g (hg | ⟨c, hc, hg⟩)
  · exact World.ownsRow.lt h.c g hg
  · exact World.ownsRow.lt (h.o c hc) g hg
theorem ShS.keepT {b e' : Nat} {w w' : World} {v : Value} {cs : List Cw} (h : ShS b w v cs) (k : KeepT e' w w') (n1 : 59 ≠ e') (n2 : 93 ≠ e') : ShS b w' v cs := ⟨row_keepT h.c k n1, fun c hc => row_keepT (h.o c hc) k n2, h.i, h.ap, h.f⟩

theorem swc_snoc (l : List Sw) (x : Sw) : swc (l ++ [x]) = swc l ++ [x.c] := by simp [swc]
theorem sws_snoc (l : List Sw) (x : Sw) : sws (l ++ [x]) = sws l ++ [x.s] := by simp [sws]

/-- A section more. -/
theorem OwnSe.pushG {b : Nat} {w w6 : World} {v : Value} {l : List Sw} (h : OwnSe b w v l) (hbw : b ≤ w.heap.size) (hb : Below w.heap.size w w6) (x : Sw) (hx : ShS w.heap.size w6 x.v x.rs) (hi : In64 x.e ∧ In64 x.f) (hl : l.length ≤ 1000000000) :
    ∃ V, w6.alloc (.cells #[.int .i64 x.e, .int .i64 x.f, x.v] 25) = V ∧ Below w6.heap.size w6 V ∧ V.heap.size = w6.heap.size + 1 ∧ ∀ ty, ∃ v2 w2, (Builtin.append_ #[53, 53] ty #[v, .slice (some ⟨w6.heap.size, 0, none⟩) 1 1]).run Tryz.prog V = .ok v2 w2 ∧ OwnSe b w2 v2 (l ++ [x]) ∧ (Below b w6 w2 ∧ V.grownBy w2 v.ownBlock) ∧ ∃ a n k, v2 = .slice a n k := by
  obtain ⟨V, hV, szV, belV, ownV⟩ := coms_step 25 w6 #[.int .i64 x.e, .int .i64 x.f, x.v] 1 [x.c] rfl rfl (by simp [maxLen])
  have sz6 := hb.size
  have bwV : Below w.heap.size w V := hb.trans (belV.mono sz6)
  refine ⟨V, hV, belV, szV, fun ty => ?_⟩
  have hV' := h.below bwV
  have hxV := hx.below belV
  have hone : x.v.oneCell' = true := by
    obtain ⟨a, k, e, _⟩ := hx.c.row.shape
    rw [e]; rfl
  obtain ⟨v2, w2, hr, own2, gr2, at2⟩ := run_append_coms_at (P := Tryz.prog) (w := V) 53 ty 25 b Tryz.underlying53 Tryz.info25 v (swc l) hV'.r _ [x.c] ownV.row (fun d hd => by rw [List.mem_singleton.1 hd]; exact hone) (by rw [swc_len]; simp; omega) (by omega)
  have kp := KeepT.of_row hV'.r gr2
  refine ⟨v2, w2, hr, ⟨by rw [swc_snoc]; exact own2, fun y hy => ?_, fun y hy => ?_, fun i j y z hij hi hj g hg hz => ?_⟩, ⟨(belV.mono (by omega)).grown gr2 (by omega) fun g hg => (World.ownsRow.lt hV'.r g hg).1, gr2⟩, ?_⟩
  · rcases List.mem_append.1 hy with hy | hy
    · exact (hV'.o y hy).keepT kp (by decide) (by decide)
    · rw [List.mem_singleton.1 hy]
      exact (hxV.rebase hbw).keepT kp (by decide) (by decide)
  · rcases List.mem_append.1 hy with hy | hy
    · exact h.i y hy
    · rw [List.mem_singleton.1 hy]; exact hi
  · have hjl := (List.getElem?_eq_some_iff.1 hj).1
    rw [List.length_append, List.length_singleton] at hjl
    have hi' : i < l.length := by omega
    rw [List.getElem?_append_left hi'] at hi
    by_cases hjl' : j < l.length
    · rw [List.getElem?_append_left hjl'] at hj
      exact h.ap i j y z hij hi hj g hg hz
    · rw [List.getElem?_append_right (by omega), show j - l.length = 0 by omega, List.getElem?_cons_zero] at hj
      cases hj
      have h1 := ((h.o y (List.mem_of_getElem? hi)).lt g hg).2
      have h2 := (hx.lt g hz).1
      omega
  · obtain ⟨a1, k1, h1, _⟩ := own2.row.shape
    exact ⟨a1, _, k1, h1⟩

theorem OwnSe.push {b : Nat} {w w6 : World} {v : Value} {l : List Sw} (h : OwnSe b w v l) (hbw : b ≤ w.heap.size) (hb : Below w.heap.size w w6) (x : Sw) (hx : ShS w.heap.size w6 x.v x.rs) (hi : In64 x.e ∧ In64 x.f) (hl : l.length ≤ 1000000000) :
    ∃ V, w6.alloc (.cells #[.int .i64 x.e, .int .i64 x.f, x.v] 25) = V ∧ Below w6.heap.size w6 V ∧ V.heap.size = w6.heap.size + 1 ∧ ∀ ty, ∃ v2 w2, (Builtin.append_ #[53, 53] ty #[v, .slice (some ⟨w6.heap.size, 0, none⟩) 1 1]).run Tryz.prog V = .ok v2 w2 ∧ OwnSe b w2 v2 (l ++ [x]) ∧ Below b w6 w2 ∧ ∃ a n k, v2 = .slice a n k := by
  obtain ⟨V, h1, h2, h3, h4⟩ := h.pushG hbw hb x hx hi hl
  exact ⟨V, h1, h2, h3, fun ty => by
    obtain ⟨v2, w2, k1, k2, k3, k4⟩ := h4 ty
    exact ⟨v2, w2, k1, k2, k3.1, k4⟩⟩

/-- What a Scan answers and leaves. -/
def ScO (w : World) (bs : List Int) (E : Ending) (w' : World) : Prop :=
  ∃ (v : Value) (l : List Sw) (n : Nat), E = .returned (.tuple #[v, .int .i64 n]) ∧ Hid (OwnSe w.heap.size w' v l ∧ FitSe l ∧ n = (Orp.secs (sws l)).length ∧ Orp.Sn 0 bs (sws l) ∧ Below w.heap.size w w')

/-- In the midst of a Scan. -/
structure MiS (w wr : World) (bs : List Int) (a : Nat) (v : Value) (l : List Sw) : Prop where
  own : OwnSe w.heap.size wr v l
  fit : FitSe l
  ris : Orp.Ris 0 (sws l)
  pre : Orp.secs (sws l) <+: bs
  at' : a = (Orp.secs (sws l)).length
  bel : Below w.heap.size w wr

theorem MiS.le {w wr : World} {bs : List Int} {a : Nat} {v : Value} {l : List Sw} (h : MiS w wr bs a v l) : a ≤ bs.length := by rw [h.at']; exact h.pre.length_le
theorem MiS.len {w wr : World} {bs : List Int} {a : Nat} {v : Value} {l : List Sw} (h : MiS w wr bs a v l) : l.length ≤ a := by
  have := Orp.secs_len (sws l)
  rw [sws_len] at this
  rw [h.at']; exact this

/-- None follows. -/
theorem MiS.no {w wr : World} {bs : List Int} {a : Nat} {v : Value} {l : List Sw} (h : MiS w wr bs a v l) (hn : Orp.No (bs.drop a)) : Orp.Sn 0 bs (sws l) := ⟨h.ris, h.pre, fun t ht hp => by
  rw [← h.at'] at hp
  exact hn t ht.1 hp⟩
theorem MiS.low {w wr : World} {bs : List Int} {a : Nat} {v : Value} {l : List Sw} (h : MiS w wr bs a v l) {x : Sw} {n : Nat} (hr : Orp.Rd (bs.drop a) x.s n true) (hle : x.e ≤ Orp.lstS 0 (sws l)) : Orp.Sn 0 bs (sws l) := ⟨h.ris, h.pre, fun t ht hp => by
  rw [← h.at'] at hp
  rcases hr with ⟨_, h1, h2, _⟩ | ⟨h1, _⟩
  · have e := Orp.sec_one ht.1 h1 hp h2
    have := ht.2.1
    rw [e] at this
    have : Orp.lstS 0 (sws l) < x.e := this
    omega
  · simp at h1⟩

theorem lst_at {l : List Sw} {k : Nat} {x : Sw} (h : l[k]? = some x) (hk : k + 1 = l.length) (a : Int) : Orp.lstS a (sws l) = x.e := by
  have e : l = l.take k ++ [x] := by
    obtain ⟨hlt, e⟩ := List.getElem?_eq_some_iff.1 h
    have : l.take (k + 1) = l := List.take_of_length_le (by omega)
    rw [List.take_succ_eq_append_getElem hlt, e] at this
    exact this.symm
  rw [e, sws_snoc, Orp.lst_snoc]
  rfl

/-- One more follows. -/
theorem MiS.next {w wr wx : World} {bs : List Int} {a : Nat} {v v2 : Value} {l : List Sw} (h : MiS w wr bs a v l) {x : Sw} {n : Nat} (hr : Orp.Rd (bs.drop a) x.s n true) (hgt : Orp.lstS 0 (sws l) < x.e) (hf : FitC x.rs) (ho : OwnSe w.heap.size wx v2 (l ++ [x])) (hb : Below w.heap.size w wx) : MiS w wx bs (a + n) v2 (l ++ [x]) ∧ 1 ≤ n := by
  rcases hr with ⟨_, h1, h2, h3⟩ | ⟨h1, _⟩
  · have hz := Orp.chk_zero h1
    have hln : x.rs.length ≤ 1048576 := by
      have := hz.2.2.2.2.2.1
      rw [show x.s.cs = cvs x.rs from rfl, cvs_many] at this
      exact this
    have hp := Orp.sec_pos x.s
    refine ⟨⟨ho, fun y hy => ?_, ?_, ?_, ?_, hb⟩, by omega⟩
    · rcases List.mem_append.1 hy with hy | hy
      · exact h.fit y hy
      · rw [List.mem_singleton.1 hy]; exact ⟨hf, by omega⟩
    · rw [sws_snoc, Orp.ris_app]
      exact ⟨h.ris, h1, hgt, trivial⟩
    · rw [sws_snoc, Orp.secs_app, Orp.secs_one, Bm.pre_app]
      rw [h.at'] at h2
      exact ⟨h.pre, h2⟩
    · rw [sws_snoc, Orp.secs_app, Orp.secs_one, List.length_append, ← h.at', h3]
  · simp at h1

end Go.Proofs.YtkpnkknolobioaaGreat

/- The program's reading of a section (layer 19). -/
namespace Go.Proofs.YtkpnkknolobioaaGreat
open Go.RowKit
set_option linter.unusedVariables false

/-- In the midst of the commits: the section that is told is what was read so far. -/
structure MdP (w wr : World) (bs : List Int) (x y m a : Nat) (v : Value) (cs : List Cw) : Prop where
  blk : wr.heap[w.heap.size]? = some (.cells #[.int .i64 x, .int .i64 y, v] 25 (0, 0))
  sh : ShS (w.heap.size + 1) wr v cs
  bel : Below w.heap.size w wr
  hh : Fm.frm (Vm.enc x ++ (Vm.enc y ++ Vm.enc m)) <+: bs
  hl : Wl.lgb (cvs cs) <+: bs.drop (Fm.frm (Vm.enc x ++ (Vm.enc y ++ Vm.enc m))).length
  hc : ∀ c ∈ cvs cs, Cm.chk c.e c.n c.l = 0
  at' : a = (Fm.frm (Vm.enc x ++ (Vm.enc y ++ Vm.enc m))).length + (Wl.lgb (cvs cs)).length
  len : cs.length ≤ m
  num : x ≤ 1048576 ∧ y ≤ 1048576 ∧ m ≤ 1048576

theorem MdP.le {w wr : World} {bs : List Int} {x y m a : Nat} {v : Value} {cs : List Cw} (h : MdP w wr bs x y m a v cs) : a ≤ bs.length := by
  have h1 := h.hh.length_le
  have h2 := h.hl.length_le
  rw [List.length_drop] at h2
  rw [h.at']
  omega

/-- No commit follows. -/
theorem MdP.no {w wr : World} {bs : List Int} {x y m a : Nat} {v : Value} {cs : List Cw} (h : MdP w wr bs x y m a v cs) (hlt : cs.length < m) (hn : (∃ r n e, Fm.Rd (bs.drop a) r n e ∧ e ≠ 0) ∨ ∃ r n e k l g, Fm.Rd (bs.drop a) r n 0 ∧ Cm.CRes r e k l g ∧ g ≠ 0) : Orp.No bs := by
  refine Orp.no_mid h.hh h.hl h.hc (by rw [cvs_many]; exact hlt) fun c hc hp => ?_
  rw [← h.at'] at hp
  rcases hn with ⟨r, n, e, hr, he⟩ | ⟨r, n, e, k, l, g, hr, hd, hg⟩
  · rcases hr with ⟨h1, _⟩ | ⟨_, _, _, hn⟩
    · exact he h1
    · exact hn _ (by have := Wl.rec_small hc; omega) hp
  · rcases hr with ⟨_, _, _, hq⟩ | ⟨h1, _⟩
    · rcases hd with ⟨h1, _⟩ | ⟨_, _, _, _, hn⟩
      · exact hg h1
      · exact hn _ _ _ hc (Fm.frm_one hp hq)
    · simp at h1

/-- A commit more. -/
theorem MdP.push {w wr w6 : World} {bs : List Int} {x y m a : Nat} {v : Value} {cs : List Cw} (h : MdP w wr bs x y m a v cs) (hb : Below wr.heap.size wr w6) (hlt : cs.length < m) {r : List Int} {n : Nat} (hr : Fm.Rd (bs.drop a) r n 0) {e k : Int} {l : List Bm.Ov} (hd : Cm.CRes r e k l 0) {v' : Value} (ho : OwnO 93 wr.heap.size w6 v' l) :
    ∃ V, w6.alloc (.cells #[.int .i64 e, .int .i64 k, v'] 59) = V ∧ V.cell? ⟨w.heap.size, 2, none⟩ = some v ∧ Hid (∀ ty, ∃ v2 w2, (Builtin.append_ #[23, 23] ty #[v, .slice (some ⟨w6.heap.size, 0, none⟩) 1 1]).run Tryz.prog V = .ok v2 w2 ∧
      ((∃ U, w2.setCell ⟨w.heap.size, 2, none⟩ v2 = U ∧ MdP w U bs x y m (a + n) v2 (cs ++ [⟨e, k, v', l⟩])) ∧ w2.cell? ⟨w.heap.size, 2, none⟩ = some v ∧ w2.frozen? ⟨w.heap.size, 2, none⟩ = false ∧ ∃ a n k, v2 = .slice a n k)) := by
  obtain ⟨g1, g2, g3, g4, g5, g6⟩ := mdo_next (v' := v') h.hl h.hc h.at' hr hd
  have hS := blk_lt h.blk
  obtain ⟨V, hV, belV, szV, hpu⟩ := h.sh.push (by omega) hb ⟨e, k, v', l⟩ ho (cfit_ok g1) (by have := h.num; have := h.len; omega)
  have bwV : Below wr.heap.size wr V := hb.trans (belV.mono hb.size)
  have hBV := (bwV.block w.heap.size hS).trans h.blk
  refine ⟨V, hV, blk_cell hBV 2 rfl, hide fun ty => ?_⟩
  obtain ⟨v2, w2, hrun, sh2, gr2, hsl⟩ := hpu ty
  have hvb : ∀ g, v.ownBlock = some g → w.heap.size + 1 ≤ g := fun g hg => (World.ownsRow.lt h.sh.c g hg).1
  have hB2 := (gr2.block w.heap.size (blk_lt hBV) fun e => by have := hvb _ e.symm; omega).trans hBV
  obtain ⟨U, hU, bU, gU, fU⟩ := put_c hB2 2 v2
  refine ⟨v2, w2, hrun, ⟨⟨U, hU, ?_⟩, blk_cell hB2 2 rfl, fU, hsl⟩⟩
  have b2 : Below w.heap.size w w2 := (h.bel.trans (bwV.mono h.bel.size)).grown gr2 (by have := bwV.size; have := h.bel.size; omega) fun g hg => by have := hvb g hg; omega
  exact ⟨by rw [bU]; rfl, sh2.out (F := fun g => g = w.heap.size) (Out.of_grown gU fun g hg => by simp at hg; exact hg.symm) (fun g hg => by rw [hg]; omega), below_put b2 gU (Nat.le_refl _) b2.size, h.hh, g4, g5, g6, by rw [List.length_append, List.length_singleton]; omega, h.num⟩

set_option maxRecDepth 20000 in
set_option maxHeartbeats 8000000 in
theorem poread_any (vb : Value) (bs : List Int) (w : World) (hb : Is .u8 w vb bs) (hl : bs.length ≤ 140737488355328) : Calls Tryz.prog 59 #[vb] w (RdO w bs) := by
  obtain ⟨w1, hw1, sz1, bel1, hR1⟩ := blk_step w #[.int .i64 0, .int .i64 0, .slice none 0 0] 25
  have HB := hide hb
  have F1 := hide (fread_any vb bs w1 (hb.below bel1) (by omega))
  obtain ⟨ao, cap, hvb, _, _⟩ := hb.shape
  rw [hvb] at HB F1
  subst hvb
  have B1 := hide bel1
  have R1 := hide hR1
  clear hb hR1 bel1
  go_enter Tryz.func59, Tryz.ntmps59
  go_wp2_with fail
  refine F1.out.mono ?_
  rintro E w2 ⟨vh, hs, n0, e0, rfl, ownh, bel2, HRd⟩
  have hR2 := (bel2.block w.heap.size (by omega)).trans R1.out
  have B2 := hide (B1.out.trans (bel2.mono B1.out.size))
  obtain ⟨ah, ch, hvh, _, _⟩ := ownh.is.shape
  clear F1 R1
  by_cases he0 : e0 = 0
  · subst he0
    have HF : Hid (Fm.frm hs <+: bs ∧ n0 = (Fm.frm hs).length ∧ hs.length ≤ 131072) := hide (by
      rcases HRd.out with ⟨_, h1, h2, h3⟩ | ⟨h1, _⟩
      · exact ⟨h3, by rw [h2, Fm.frm_len], h1⟩
      · simp at h1)
    have HD := hide (pohd_any vh hs w2 ownh.is (by have := HF.out.2.2; omega))
    rw [hvh] at HD
    subst hvh
    clear ownh bel2 HRd
    go_wp2_with fail
    refine HD.out.mono ?_
    rintro E w3 ⟨x, y, m, g, rfl, HX, bel3⟩
    have hR3 := (bel3.block _ (blk_lt hR2)).trans hR2
    have B3 := B2.out.trans (bel3.mono B2.out.size)
    obtain ⟨Z, hZ, bZ, gZ, ⟨a0, a1, a2⟩, ⟨f0, f1, f2⟩, z0, z1, z2⟩ := res_step hR3 (.int .i64 x) (.int .i64 y) (.slice none 0 0)
    have BZ := hide (below_put B3 gZ (Nat.le_refl _) B3.size)
    have ZB := hide bZ
    clear HD hR2 hR3 B3 B2 bel3 gZ bZ
    cases g with
    | false =>
      have NO : Hid (Orp.No bs) := hide (Orp.no_hdr HF.out.1 (by
        rcases HX.out with ⟨h1, _⟩ | ⟨_, h⟩
        · simp at h1
        · exact h))
      obtain ⟨Y, hY, bY, gY, _, ⟨g0, g1, g2⟩, y0, y1, y2⟩ := res_step ZB.out (.int .i64 0) (.int .i64 0) (.slice none 0 0)
      have BY := hide (below_put BZ.out gY (Nat.le_refl _) BZ.out.size)
      clear ZB gY bY BZ HX HF HB
      go_wp2
      refine bodyPost_ret (v := .tuple #[.agg #[.int .i64 0, .int .i64 0, .slice none 0 0], .int .i64 0, .bool false]) (by simp [results, Tryz.results59, go_sem, y0, y1, y2]) rfl ?_
      exact rdo_no BY.out NO.out
    | true =>
      have MM : Hid (MdP w Z bs x y m n0 (.slice none 0 0) []) := hide (by
        rcases HX.out with ⟨_, h1, h2⟩ | ⟨h1, _⟩
        · exact ⟨ZB.out, ShS.nil _ _, BZ.out, by rw [h2]; exact HF.out.1, by simp [cvs, Wl.lgb, Fm.cat], fun c hc => by simp [cvs] at hc, by rw [h2]; simpa [cvs, Wl.lgb, Fm.cat] using HF.out.2.1, Nat.zero_le _, h1⟩
        · simp at h1)
      have hm := MM.out.num.2.2
      have hn0 := MM.out.le
      clear ZB BZ HX HF
      go_wp2
      go_loopw [3, 31] (fun av kv wr => ∃ (a : Nat) (v : Value) (cs : List Cw), a ≤ bs.length ∧ cs.length ≤ m ∧ av = .int .i64 a ∧ kv = .int .i64 cs.length ∧ Hid (MdP w wr bs x y m a v cs)) (fun _ kv _ => m - (intOf kv).toNat)
      case atStart => exact ⟨n0, _, [], hn0, by simp, rfl, rfl, MM⟩
      case round =>
        clear MM z0 z1 z2
        obtain ⟨a, v, cs, hle, hcl, rfl, rfl, M⟩ := hrel
        obtain ⟨av, kv, hvv, _, _⟩ := M.out.sh.c.row.shape
        rw [hvv] at M
        subst hvv
        obtain ⟨c0, c1, c2⟩ : wr.cell? ⟨w.heap.size, 0, none⟩ = some (.int .i64 x) ∧ wr.cell? ⟨w.heap.size, 1, none⟩ = some (.int .i64 y) ∧ wr.cell? ⟨w.heap.size, 2, none⟩ = some (.slice av cs.length kv) := ⟨blk_cell M.out.blk 0 rfl, blk_cell M.out.blk 1 rfl, blk_cell M.out.blk 2 rfl⟩
        by_cases hlt : cs.length < m
        · have hlt' : (cs.length : Int) < m := by omega
          obtain ⟨vs, hsl, isl⟩ := (HB.out.below M.out.bel).slice_l Tryz.elemB Tryz.sizeE a hle
          have FR := hide (pocm_any vs (bs.drop a) wr isl (by rw [List.length_drop]; omega))
          clear isl c0 c1 c2
          go_wp2_with fail
          refine FR.out.mono ?_
          rintro E w9 ⟨c, n, g, rfl, H9⟩
          obtain ⟨ca, ck, hcv, _, _⟩ := H9.out.1.is.shape
          have bel9 := H9.out.2.1
          obtain ⟨wb, hwb, hwb', szb, belb, bb, k0, k1, k2⟩ := new_step w9 59 (.int .i64 0) (.int .i64 0) (.slice none 0 0) (.int .i64 c.e) (.int .i64 c.n) c.v
          have belrb : Below wr.heap.size wr wb := bel9.trans (belb.mono bel9.size)
          have OB := hide (H9.out.1.below belb)
          have BRB := hide belrb
          rw [hcv] at hwb hwb' k2 ⊢
          have HCV := hide hcv
          clear FR hsl bb belb bel9 belrb
          cases g with
          | false =>
            have NO : Hid (Orp.No bs) := hide (M.out.no hlt (by
              rcases H9.out.2.2 with ⟨h1, _⟩ | ⟨_, h⟩
              · simp at h1
              · exact h))
            have hBb := (BRB.out.block _ (blk_lt M.out.blk)).trans M.out.blk
            have bwb := M.out.bel.trans (BRB.out.mono M.out.bel.size)
            obtain ⟨Y, hY, bY, gY, ⟨i0, i1, i2⟩, ⟨g0, g1, g2⟩, y0, y1, y2⟩ := res_step hBb (.int .i64 0) (.int .i64 0) (.slice none 0 0)
            have BY := hide (below_put bwb gY (Nat.le_refl _) bwb.size)
            clear gY bY bwb hBb M H9 OB BRB szb
            go_wp2
            refine bodyPost_ret (v := .tuple #[.agg #[.int .i64 0, .int .i64 0, .slice none 0 0], .int .i64 0, .bool false]) (by simp [results, Tryz.results59, go_sem, y0, y1, y2]) rfl ?_
            exact rdo_no BY.out NO.out
          | true =>
            have HR : Hid (∃ r, Fm.Rd (bs.drop a) r n 0 ∧ Cm.CRes r c.e c.n c.l 0) := hide (by
              rcases H9.out.2.2 with ⟨_, h⟩ | ⟨h1, _⟩
              · exact h
              · simp at h1)
            obtain ⟨r, hr1, hr2⟩ := HR.out
            obtain ⟨V, hV, cV, XX⟩ := M.out.push BRB.out hlt hr1 hr2 OB.out
            have NN := hide (mdo_next (v' := c.v) M.out.hl M.out.hc M.out.at' hr1 hr2)
            have cb2 : wb.cell? ⟨w.heap.size, 2, none⟩ = some (.slice av cs.length kv) := (BRB.out.cell (p := ⟨w.heap.size, 2, none⟩) (blk_lt M.out.blk)).trans (blk_cell M.out.blk 2 rfl)
            have hna := NN.out.2.2.1
            rw [HCV.out] at hV
            clear NN OB HR hr1 hr2 BRB H9 M szb HCV
            go_wp2_with (at_builtin; refine wpList_append_at rfl (.tmp 45) (.tmp 47) 23 rfl (.slice av cs.length kv) (.slice (some ⟨wb.heap.size, 0, none⟩) 1 1) rfl rfl XX.out ?_)
            rintro v8 w8 MU c8 f8 a8 n8 k8 rfl
            obtain ⟨U, hU⟩ : ∃ U, w8.setCell ⟨w.heap.size, 2, none⟩ (.slice a8 n8 k8) = U := ⟨_, rfl⟩
            rw [hU] at MU
            have MU2 := hide MU
            have HL2 : Hid (∀ d : Cw, (cs ++ [d]).length = cs.length + 1) := hide fun d => by simp
            clear MU XX
            go_wp2
            go_roundw
            case rel => exact ⟨a + n, _, _, by omega, by rw [HL2.out]; omega, by go_num, by rw [HL2.out]; go_num, MU2⟩
            case measure => simp [intOf]; omega
        · have hlt' : ¬ (cs.length : Int) < m := by omega
          have hlm : cs.length = m := by omega
          have hcl : (cvs cs).length = m := by rw [cvs_many]; exact hlm
          obtain ⟨ck, hck⟩ : ∃ z, Orp.chk ⟨x, y, cvs cs⟩ = z := ⟨_, rfl⟩
          have RDX : Hid ((ck = 0 → Orp.Rd bs ⟨x, y, cvs cs⟩ a true) ∧ (ck ≠ 0 → Orp.No bs)) := hide (by
            have h1 := M.out.hh
            have h2 := M.out.hl
            have h3 := M.out.at'
            rw [← hcl] at h1 h2 h3
            refine ⟨fun h0 => ?_, fun h0 => Orp.no_end h1 h2 M.out.hc (by rw [hck]; exact h0)⟩
            obtain ⟨k1, k2⟩ := Orp.is_end h1 h2
            exact .inl ⟨rfl, by rw [hck]; exact h0, k1, by rw [k2]; exact h3⟩)
          have IX : Hid (In64 (x : Int) ∧ In64 (y : Int)) := hide ⟨⟨by omega, by have := M.out.num; omega⟩, ⟨by omega, by have := M.out.num; omega⟩⟩
          have CK := hide (pochk_any x y (.slice av cs.length kv) cs wr M.out.sh.isC M.out.sh.f (by omega))
          unfold cmv at CK
          rw [hck] at CK
          clear hck hcl hlm HB
          go_wp2_with fail
          refine CK.out.mono ?_
          rintro E w9 ⟨rfl, bel9⟩
          have hB9 := (bel9.block _ (blk_lt M.out.blk)).trans M.out.blk
          have sh9 := M.out.sh.below bel9
          have b9 := M.out.bel.trans (bel9.mono M.out.bel.size)
          by_cases h0 : ck = 0
          · subst h0
            obtain ⟨⟨s0, s1, s2⟩, ⟨f0, f1, f2⟩, z0, z1, z2⟩ := zero_blk w9 hB9
            have RD0 := hide (RDX.out.1 rfl)
            have SH := hide (sh9.rebase (b' := w.heap.size) (by omega))
            have BB := hide b9
            clear hB9 sh9 b9 bel9 CK M c0 c1 c2
            go_wp2
            refine bodyPost_ret (v := .tuple #[.agg #[.int .i64 x, .int .i64 y, .slice av cs.length kv], .int .i64 a, .bool true]) (by simp [results, Tryz.results59, go_sem, z0, z1, z2]) rfl ?_
            exact ⟨⟨x, y, .slice av cs.length kv, cs⟩, a, true, rfl, hide ⟨SH.out, IX.out.1, IX.out.2, RD0.out, BB.out⟩⟩
          · have hne : (ck != 0) = true := by simp [h0]
            have NO := hide (RDX.out.2 h0)
            obtain ⟨Y, hY, bY, gY, ⟨i0, i1, i2⟩, ⟨g0, g1, g2⟩, y0, y1, y2⟩ := res_step hB9 (.int .i64 0) (.int .i64 0) (.slice none 0 0)
            have BY := hide (below_put b9 gY (Nat.le_refl _) b9.size)
            clear gY bY b9 hB9 M sh9 bel9 CK h0 c0 c1 c2
            go_wp2
            refine bodyPost_ret (v := .tuple #[.agg #[.int .i64 0, .int .i64 0, .slice none 0 0], .int .i64 0, .bool false]) (by simp [results, Tryz.results59, go_sem, y0, y1, y2]) rfl ?_
            exact rdo_no BY.out NO.out
  · have heb : (e0 != 0) = true := by simp [he0]
    have NO : Hid (Orp.No bs) := hide (Orp.no_frm (by
      rcases HRd.out with ⟨h1, _⟩ | ⟨_, _, _, h⟩
      · exact absurd h1 he0
      · exact h))
    obtain ⟨⟨s0, s1, s2⟩, ⟨f0, f1, f2⟩, z0, z1, z2⟩ := zero_blk w2 hR2
    subst hvh
    clear HRd ownh bel2 hR2
    go_wp2
    refine bodyPost_ret (v := .tuple #[.agg #[.int .i64 0, .int .i64 0, .slice none 0 0], .int .i64 0, .bool false]) (by simp [results, Tryz.results59, go_sem, z0, z1, z2]) rfl ?_
    exact rdo_no B2.out NO.out

end Go.Proofs.YtkpnkknolobioaaGreat

/- A row of commits or runs of one's own: an element is stored. No program. -/
namespace Go.Proofs.YtkpnkknolobioaaGreat
open Go.RowKit
set_option linter.unusedVariables false

theorem ccells_set (l : List Cw) (i : Nat) (c : Cw) (hi : i < l.length) : (((ccells l).set (i * 3) (.int .i64 c.e)).set (i * 3 + 1) (.int .i64 c.n)).set (i * 3 + 2) c.v = ccells (l.set i c) := by
  induction l generalizing i with
  | nil => simp at hi
  | cons d l ih =>
    cases i with
    | zero => simp [ccells, ccell]
    | succ i =>
      have := ih i (by simpa using hi)
      rw [show (i + 1) * 3 = i * 3 + 3 by omega]
      simp only [ccells, ccell, List.set_cons_succ, List.cons_append, List.nil_append]
      rw [← this]

theorem own_putC {e base g n cap : Nat} {w : World} {l : List Cw} (h : OwnR e base w (.slice (some ⟨g, 0, none⟩) n cap) l) (hn : l.length = n) (i : Nat) (hi : i < n) (c : Cw) :
    ∃ W, ((w.setCell ⟨g, i * 3, none⟩ (.int .i64 c.e)).setCell ⟨g, i * 3 + 1, none⟩ (.int .i64 c.n)).setCell ⟨g, i * 3 + 2, none⟩ c.v = W ∧ OwnR e base W (.slice (some ⟨g, 0, none⟩) n cap) (l.set i c) ∧ w.grownBy W (some g) := by
  subst hn
  unfold OwnR at h
  have s1 := h.stored (i * 3) (.int .i64 c.e)
  have s2 := s1.1.stored (i * 3 + 1) (.int .i64 c.n)
  have s3 := s2.1.stored (i * 3 + 2) c.v
  refine ⟨_, rfl, ?_, grown_trans s1.2 (grown_trans s2.2 s3.2)⟩
  unfold OwnR
  rw [List.length_set, ← ccells_set l i c hi]
  exact s3.1

theorem own_atC {e base g n cap : Nat} {w : World} {l : List Cw} (h : OwnR e base w (.slice (some ⟨g, 0, none⟩) n cap) l) (hn : l.length = n) (i : Nat) (c : Cw) (hc : l[i]? = some c) :
    (w.cell? ⟨g, i * 3, none⟩ = some (.int .i64 c.e) ∧ w.cell? ⟨g, i * 3 + 1, none⟩ = some (.int .i64 c.n) ∧ w.cell? ⟨g, i * 3 + 2, none⟩ = some c.v) ∧ (w.frozen? ⟨g, i * 3, none⟩ = false ∧ w.frozen? ⟨g, i * 3 + 1, none⟩ = false ∧ w.frozen? ⟨g, i * 3 + 2, none⟩ = false) := by
  subst hn
  unfold OwnR at h
  obtain ⟨hi, rfl⟩ := List.getElem?_eq_some_iff.1 hc
  obtain ⟨a0, a1, a2⟩ := ccells_at l i hi
  exact ⟨⟨by rw [h.cellAt (i * 3) (by omega)]; exact a0, by rw [h.cellAt (i * 3 + 1) (by omega)]; exact a1, by rw [h.cellAt (i * 3 + 2) (by omega)]; exact a2⟩, h.frozenAt _, h.frozenAt _, h.frozenAt _⟩

end Go.Proofs.YtkpnkknolobioaaGreat

/- Copies of commits, one after the other, in a row of one's own. No program. -/
namespace Go.Proofs.YtkpnkknolobioaaGreat
open Go.RowKit
set_option linter.unusedVariables false

/-- The copies so far. -/
structure Fst (w wr : World) (g m cap : Nat) (rest : List Cw) (k : Nat) (rk : List Cw) : Prop where
  row : OwnR 59 w.heap.size wr (.slice (some ⟨g, 0, none⟩) m cap) rk
  len : rk.length = m
  left : rk.drop k = rest.drop k
  cop : CopyR w.heap.size wr (rk.take k)
  is : cvs rk = cvs rest
  ap : ApC (rk.take k)
  bel : Below w.heap.size w wr

theorem Fst.next {w wr w2 w3 : World} {g m cap : Nat} {rest rk : List Cw} {k : Nat} (h : Fst w wr g m cap rest k rk) {c : Cw} (hc : rest[k]? = some c) (hk : k < m) {v' : Value} (ho : OwnO 93 wr.heap.size w2 v' c.l) (hb : Below wr.heap.size wr w2)
    (hr : OwnR 59 w.heap.size w3 (.slice (some ⟨g, 0, none⟩) m cap) (rk.set k ⟨c.e, c.n, v', c.l⟩)) (hg : w2.grownBy w3 (some g)) : Fst w w3 g m cap rest (k + 1) (rk.set k ⟨c.e, c.n, v', c.l⟩) := by
  have hlen := h.len
  have hrk : rk[k]? = some c := by
    have e1 : (rk.drop k)[0]? = (rest.drop k)[0]? := by rw [h.left]
    rw [List.getElem?_drop, List.getElem?_drop] at e1
    simpa using e1.trans (by simpa using hc)
  have htk : (rk.set k ⟨c.e, c.n, v', c.l⟩).take (k + 1) = rk.take k ++ [⟨c.e, c.n, v', c.l⟩] := by
    rw [List.take_succ_eq_append_getElem (by rw [List.length_set]; omega), List.take_set_of_le (Nat.le_refl _)]
    simp
  have hrow2 : OwnR 59 w.heap.size w2 (.slice (some ⟨g, 0, none⟩) m cap) rk := h.row.below hb
  have kt : KeepT 59 w2 w3 := KeepT.of_row hrow2 hg
  refine ⟨hr, by rw [List.length_set]; exact hlen, ?_, ?_, ?_, ?_, ?_⟩
  · rw [List.drop_set_of_lt (by omega), ← List.drop_drop, h.left, List.drop_drop]
  · rw [htk]
    exact ((h.cop.below hb).keepT kt).snoc (c := ⟨c.e, c.n, v', c.l⟩) ((ho.keepT kt (by decide)).rebase h.bel.size)
  · rw [← h.is]
    unfold cvs
    rw [List.map_set]
    apply List.ext_getElem?
    intro i
    rw [List.getElem?_set]
    by_cases hik : k = i
    · subst hik
      rw [if_pos rfl, if_pos (by rw [List.length_map]; omega), List.getElem?_map, hrk]
      rfl
    · rw [if_neg hik]
  · rw [htk]
    refine apc_snoc (N := wr.heap.size) h.ap (fun d hd b hb => ((h.cop d hd).block b hb).2) fun b hb => (OwnO.block ho b hb).1
  · have b2 := h.bel.trans (hb.mono h.bel.size)
    refine b2.grown hg b2.size fun i hi => ?_
    have := (World.ownsRow.lt h.row g rfl).1
    simp only [Option.some.injEq] at hi
    omega

end Go.Proofs.YtkpnkknolobioaaGreat

/- slices.Clone of commits. -/
namespace Go.Proofs.YtkpnkknolobioaaGreat
open Go.RowKit
set_option linter.unusedVariables false

theorem cloneC_any (vl : Value) (r : List Cw) (w : World) (h : RowC w vl r) (hone : ∀ c ∈ r, c.v.oneCell' = true) (hl : r.length ≤ 1048576) :
    Calls Tryz.prog 81 #[vl] w fun e w' => ∃ v, e = .returned v ∧ OwnR 59 w.heap.size w' v r ∧ Below w.heap.size w w' := by
  have q : ∀ (w : World) (a : Option Addr) (n c n' c' : Nat), (binOp .eql 23 (.slice a n c) (.slice none n' c')).run Tryz.prog w = .ok (.bool a.isNone) w := fun w a n c n' c' => Lib.run_eql_slice_nil w _ _ a n c n' c' Tryz.underlying23
  by_cases hn : vl = .slice none 0 0
  · subst hn
    have : r = [] := by
      rcases h with ⟨_, h⟩ | ⟨ad, cap, h, _⟩
      · exact h
      · simp at h
    subst this
    clear h hl
    go_enter Tryz.func81, Tryz.ntmps81
    go_wp2
    go_ret
    exact ⟨_, rfl, OwnR.nil _ _ _, Below.refl _ _⟩
  · obtain ⟨ad, cap, rfl⟩ : ∃ ad cap, vl = .slice (some ad) r.length cap := by
      rcases h with ⟨h, _⟩ | ⟨ad, cap, h, _⟩
      · exact absurd h hn
      · exact ⟨ad, cap, h⟩
    clear hn
    obtain ⟨w1, hw1, sz1, bel1, own1⟩ := coms_step 59 w #[] 0 [] rfl rfl (by simp [maxLen])
    have h1 := h.below bel1
    go_enter Tryz.func81, Tryz.ntmps81
    go_wp2_with (at_builtin; refine wpList_append_coms rfl (.tmp 5) (.tmp 6) 23 rfl 59 w.heap.size Tryz.underlying23 Tryz.info59 _ [] rfl own1 _ r rfl h1 hone (by simp; omega) (by omega) ?_)
    intro v2 w2 own2 bel2 _
    go_wp2
    go_ret
    exact ⟨_, rfl, by simpa using own2, bel1.trans bel2⟩

end Go.Proofs.YtkpnkknolobioaaGreat
