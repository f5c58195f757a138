/- Texts of one layer, one behind the other. -/
import Derived.Test.YtmmfakpphjjjfaaGreatG22
import Derived.Test.YtmmfakpphjjjfaaGreatG13
import Derived.Test.YtmmfakpphjjjfaaGreatG21
import Derived.Test.YtmmfakpphjjjfaaGreatG18
import Derived.Test.YtmmfakpphjjjfaaGreatG4
import Derived.Test.YtmmfakpphjjjfaaGreatG11
import Derived.WalkMore
/- The contract of the document's reader's Done. -/
namespace Go.Proofs.YtmmfakpphjjjfaaGreat
open Go.RowKit
set_option linter.unusedVariables false

set_option maxHeartbeats 400000 in
theorem rdone_any (w0 w : World) (g : Nat) (vb : Value) (bs : List Int) (a : Nat) (bad : Bool) (h : Rdr w0 w g vb bs a bad) :
  Calls Tryz.prog 116 #[.pointer (some ⟨g, 0, none⟩)] w fun E w' => E = .returned (.bool (!bad && decide (a = bs.length))) ∧ ∃ m, w' = w.drewN m := by
 have c0 := h.cell0
 have c1 := h.cell1
 have c2 := h.cell2
 obtain ⟨ao, cap, rfl, _, _⟩ := h.is.shape
 clear h
 go_enter Tryz.func116, Tryz.ntmps116
 cases bad
 ·by_cases he : a = bs.length
  ·have he' : ((a : Int) == (bs.length : Int)) = true := by simp [he]
   have hd : (!false && decide (a = bs.length)) = true := by simp [he]
   rw [hd]
   clear he hd
   go_wp2_with fail
   go_quiet (fail)
   go_wp2
   go_ret
   exact ⟨rfl, _, rfl⟩
  ·have he' : ((a : Int) == (bs.length : Int)) = false := by simp; omega
   have hd : (!false && decide (a = bs.length)) = false := by simp [he]
   rw [hd]
   clear he hd
   go_wp2_with fail
   go_quiet (fail)
   go_wp2
   go_ret
   exact ⟨rfl, _, rfl⟩
 ·rw [Bool.not_true, Bool.false_and]
  go_wp2_with fail
  go_quiet (fail)
  go_wp2
  go_ret
  exact ⟨rfl, _, rfl⟩

end Go.Proofs.YtmmfakpphjjjfaaGreat

/- The contract of the document's Decode of a run. -/
namespace Go.Proofs.YtmmfakpphjjjfaaGreat
open Go.RowKit
open Bm (Ov)
set_option linter.unusedVariables false

theorem Tryz.enters115 : ∀ args w, (callFunc 115 args).run Tryz.prog w = .ok (.enter 115 args) w := enters_of Tryz.func115 (by kernel_rfl) rfl

theorem doc3 {bs : List Int} {x y m a1 a2 a3 : Nat} {b1 b2 b3 : Bool} (s1 : SStep bs 1048576 0 false x a1 b1) (s2 : SStep bs 1048576 a1 b1 y a2 b2) (s3 : SStep bs 1024 a2 b2 m a3 b3) :
  (x ≤ 1048576 ∧ y ≤ 1048576 ∧ m ≤ 1024) ∧ ((b3 = true ∧ Rn.No bs ∧ m = 0) ∨ (b3 = false ∧ Nr bs x y m 3 a3)) := by
 rcases s1 with ⟨h, _⟩ | ⟨_, rfl, rfl, _, h⟩ | ⟨_, rfl, h1, h2, h3⟩
 ·cases h
 ·rcases s2 with ⟨_, rfl, rfl, _⟩ | ⟨h, _⟩ | ⟨h, _⟩
  ·rcases s3 with ⟨_, rfl, rfl, _⟩ | ⟨h, _⟩ | ⟨h, _⟩
   ·exact ⟨by omega, .inl ⟨rfl, Rn.no1 (by simpa using h), rfl⟩⟩
   ·cases h
   ·cases h
  ·cases h
  ·cases h
 ·rw [List.drop_zero] at h2
  have e1 : a1 = Vm.sz x := by omega
  subst e1
  rcases s2 with ⟨h, _⟩ | ⟨_, rfl, rfl, _, h⟩ | ⟨_, rfl, k1, k2, k3⟩
  ·cases h
  ·rcases s3 with ⟨_, rfl, rfl, _⟩ | ⟨h, _⟩ | ⟨h, _⟩
   ·exact ⟨by omega, .inl ⟨rfl, Rn.no2 h2 h, rfl⟩⟩
   ·cases h
   ·cases h
  ·subst k3
   rcases s3 with ⟨h, _⟩ | ⟨_, rfl, rfl, _, h⟩ | ⟨_, rfl, j1, j2, j3⟩
   ·cases h
   ·exact ⟨by omega, .inl ⟨rfl, Rn.no3 h2 k2 (Nat.le_refl _) h, rfl⟩⟩
   ·exact ⟨by omega, .inr ⟨rfl, h2, k2, j2, j3, h1, k1, by omega⟩⟩

def MdS (bs : List Int) (x y m a : Nat) (bad : Bool) (l : List Ov) (n : Nat) : Prop :=
 (bad = true ∧ Rn.No bs) ∨ (bad = false ∧ Nr bs x y m 3 (Vm.sz x + Vm.sz y + Vm.sz m) ∧ Rn.ens l <+: bs.drop (Vm.sz x + Vm.sz y + Vm.sz m) ∧ (∀ o ∈ l, o.c = 0) ∧ a = Vm.sz x + Vm.sz y + Vm.sz m + (Rn.ens l).length ∧ l.length + n = m)

structure MdD (bs : List Int) (w wr : World) (g bx : Nat) (vb : Value) (x y m a : Nat) (bad : Bool) (v : Value) (l : List Ov) (n : Nat) : Prop where
 rd : Rdr w wr g vb bs a bad
 gq : g = w.heap.size + 1
 bxq : g < bx
 ltq : bx < wr.heap.size
 blk : wr.heap[bx]? = some (.cells #[.int .i64 x, .int .i64 y, v] 112 (0, 0))
 r0 : wr.heap[w.heap.size]? = some (.cells #[.int .i64 0, .int .i64 0, .slice none 0 0] 112 (0, 0))
 own : OwnO 65 (bx + 1) wr v l
 st : MdS bs x y m a bad l n
 len : l.length + n ≤ 1024 ∧ x ≤ 1048576 ∧ y ≤ 1048576

theorem MdS.next {bs : List Int} {x y m a : Nat} {l : List Ov} {n : Nat} (h : MdS bs x y m a false l (n + 1)) {o : Ov} {a' : Nat} {bad' : Bool} (hs : NStep bs a false o.p o.kl o.vl a' bad') : MdS bs x y m a' bad' (l ++ [o]) n := by
 rcases h with ⟨h, _⟩ | ⟨_, h1, h2, h3, h4, h5⟩
 ·cases h
 rcases hs with ⟨h, _⟩ | ⟨_, k, e, hr, hb, ha⟩
 ·cases h
 obtain ⟨n1, n2, n3, n4⟩ := h1
 rcases hr with ⟨rfl, g1, g2, g3⟩ | ⟨rfl, _, _, _, _, hno⟩
 ·have e1 : bad' = false := by simpa using hb
  have e2 := ha rfl
  refine .inr ⟨e1, ⟨n1, n2, n3, n4⟩, ?_, fun q hq => ?_, ?_, by rw [List.length_append, List.length_singleton]; omega⟩
  ·rw [Rn.ens_snoc, Bm.pre_app, List.drop_drop, ← h4]
   exact ⟨h2, g2⟩
  ·rcases List.mem_append.1 hq with hq | hq
   ·exact h3 q hq
   ·rw [List.mem_singleton.1 hq]; exact g1
  ·rw [Rn.ens_snoc, List.length_append]
   omega
 ·have e1 : bad' = true := by simpa using hb
  refine .inl ⟨e1, Rn.no4 n1 n2 n3 h2 h3 (by omega) fun q hq hp => ?_⟩
  rw [h4] at hno
  exact hno q.p q.kl q.vl hq hp

theorem MdS.fin {bs : List Int} {x y m a : Nat} {l : List Ov} (h : MdS bs x y m a false l 0) : RdR bs x y l a 0 := by
 rcases h with ⟨h, _⟩ | ⟨_, h1, h2, h3, h4, h5⟩
 ·cases h
 ·have e : l.length = m := by omega
  subst e
  obtain ⟨n1, n2, n3, _, n5, n6, n7⟩ := h1
  exact .inr ⟨rfl, x, y, rfl, rfl, n5, n6, n7, n1, n2, n3, h2, h3, by rw [h4]⟩

theorem MdS.no {bs : List Int} {x y m a n : Nat} {l : List Ov} (h : MdS bs x y m a true l n) : Rn.No bs := by
 rcases h with ⟨_, h⟩ | ⟨h, _⟩
 ·exact h
 ·cases h

set_option maxRecDepth 20000 in
set_option maxHeartbeats 4000000 in
theorem hdecR_any (vb : Value) (bs : List Int) (w : World) (hb : Is .u8 w vb bs) (hl : bs.length ≤ 140737488355328) :
  Calls Tryz.prog 72 #[vb] w fun E w' => ∃ (x y g : Int) (v : Value) (l : List Ov), E = .returned (.tuple #[cmv x y v, .int .i64 g]) ∧ OwnO 65 w.heap.size w' v l ∧ Hid (Rn.Dc bs x y l g) ∧ Below w.heap.size w w' := by
 unfold cmv
 obtain ⟨w1, hw1, sz1, bel1, hR1⟩ := blk_step w #[.int .i64 0, .int .i64 0, .slice none 0 0] 112
 obtain ⟨w2, hw2, sz2, bel2, hG2⟩ := blk_step w1 #[vb, .int .i64 0, .bool false] 151
 rw [sz1] at hG2
 have R2 : Rdr w w2 (w.heap.size + 1) vb bs 0 false := ⟨hb, by omega, bel1.trans (bel2.mono (by omega)), hG2, by omega⟩
 have hR2 := (bel2.block _ (blk_lt hR1)).trans hR1
 obtain ⟨ao, cap, hvb, _, _⟩ := hb.shape
 subst hvb
 clear hb hR1 hG2 bel1 bel2
 go_enter Tryz.func72, Tryz.ntmps72
 go_wp2_with fail
 refine (rsmall_any w _ _ _ bs 0 false 1048576 R2 (by omega) (by omega)).mono ?_
 rintro E w3 ⟨x, a1, b1, rfl, R3, gr3, s1⟩
 have hR3 := (gr3.block _ (blk_lt hR2) (by simp)).trans hR2
 have sz3 := gr3.size
 clear gr3 R2 hR2
 go_wp2_with fail
 refine (rsmall_any w _ _ _ bs a1 b1 1048576 R3 (by omega) (by omega)).mono ?_
 rintro E w4 ⟨y, a2, b2, rfl, R4, gr4, s2⟩
 have hR4 := (gr4.block _ (blk_lt hR3) (by simp)).trans hR3
 have sz4 := gr4.size
 obtain ⟨w5, hw5, hw5', sz5, bel5, b5, x0, x1, x2⟩ := new_step w4 112 (.int .i64 0) (.int .i64 0) (.slice none 0 0) (.int .i64 x) (.int .i64 y) (.slice none 0 0)
 have R5 := R4.below bel5
 have hR5 := (bel5.block _ (blk_lt hR4)).trans hR4
 have fz5 := blk_froz b5 2
 have ss5 : w5.setCell ⟨w4.heap.size, 2, none⟩ (.slice none 0 0) = w5 := set_same b5 (j := 2) rfl
 clear gr4 R3 R4 hR3 hR4 bel5
 go_wp2_with fail
 refine (rsmall_any w _ _ _ bs a2 b2 1024 R5 (by omega) (by omega)).mono ?_
 rintro E w6 ⟨m, a3, b3, rfl, R6, gr6, s3⟩
 obtain ⟨hbd, hst⟩ := doc3 s1 s2 s3
 have sz6 := gr6.size
 have M6 : Hid (MdD bs w w6 (w.heap.size + 1) w4.heap.size (.slice ao bs.length cap) x y m a3 b3 (.slice none 0 0) [] m) := hide ⟨R6, rfl, by omega, by omega, (gr6.block _ (by omega) (by simp; omega)).trans b5, (gr6.block _ (blk_lt hR5) (by simp)).trans hR5, OwnO.nil _ _ _, by
  rcases hst with ⟨h1, h2, _⟩ | ⟨h1, h2⟩
  ·exact .inl ⟨h1, h2⟩
  ·have ha : a3 = Vm.sz x + Vm.sz y + Vm.sz m := h2.2.2.2.1
   exact .inr ⟨h1, by rw [← ha]; exact h2, by simp [Rn.ens], by simp, by simp [Rn.ens]; exact ha, by simp⟩, by simp; omega⟩
 have szb : w.heap.size + 2 ≤ w4.heap.size := by omega
 have hm4 := hbd.2.2
 clear R5 R6 hR5 b5 gr6 s1 s2 s3 hst x0 x1 x2 hw5 hw5' fz5 ss5
 go_wp2
 go_loopw [6] (fun nn wr => ∃ (n a : Nat) (bad : Bool) (v : Value) (l : List Ov), n ≤ 1024 ∧ nn = .int .i64 n ∧ Hid (MdD bs w wr (w.heap.size + 1) w4.heap.size (.slice ao bs.length cap) x y m a bad v l n)) (fun nn _ => (intOf nn).toNat)
 case atStart => exact ⟨m, a3, b3, _, [], by omega, rfl, M6⟩
 case round =>
  clear M6
  obtain ⟨n, a, bad, v, l, hn, rfl, M⟩ := hrel
  have g2 := M.out.rd.cell2
  have szr := M.out.ltq
  obtain ⟨av, nv, kv, hvv⟩ : ∃ a n k, v = .slice a n k := by
   obtain ⟨a1, k1, h1, _⟩ := M.out.own.is.shape
   exact ⟨a1, _, k1, h1⟩
  subst hvv
  by_cases hgo : 0 < n ∧ bad = false
  ·obtain ⟨hn0, rfl⟩ := hgo
   have hn0' : (0 : Int) < n := by omega
   obtain ⟨j, rfl⟩ : ∃ j, n = j + 1 := ⟨n - 1, by omega⟩
   have hB := M.out.blk
   have c2 : wr.cell? ⟨w4.heap.size, 2, none⟩ = some (.slice av nv kv) := blk_cell hB 2 rfl
   have X1 : Hid (Calls Tryz.prog 115 #[.pointer (some ⟨w.heap.size + 1, 0, none⟩)] wr.drew fun E w' => ∃ v', E = .returned v' ∧ ∃ (p : Bool) (ky vl : ByteArray) (V : World), v' = .agg #[.bool p, .string ky, .string vl] ∧ w'.cell? ⟨w4.heap.size, 2, none⟩ = some (.slice av nv kv) ∧ w'.alloc (.cells #[.bool p, .string ky, .string vl] 65) = V ∧ V.cell? ⟨w4.heap.size, 2, none⟩ = some (.slice av nv kv) ∧
     Hid (∀ ty, ∃ v2 w2, (Builtin.append_ #[48, 48] ty #[.slice av nv kv, .slice (some ⟨w'.heap.size, 0, none⟩) 1 1]).run Tryz.prog V = .ok v2 w2 ∧ (∃ (a' : Nat) (bad' : Bool) (l' : List Ov), MdD bs w (w2.setCell ⟨w4.heap.size, 2, none⟩ v2) (w.heap.size + 1) w4.heap.size (.slice ao bs.length cap) x y m a' bad' v2 l' j) ∧ w2.cell? ⟨w4.heap.size, 2, none⟩ = some (.slice av nv kv) ∧ w2.frozen? ⟨w4.heap.size, 2, none⟩ = false ∧ ∃ a n c, v2 = .slice a n c)) := hide (by
    have hM := M.out
    have rd' : Rdr w wr.drew (w.heap.size + 1) (.slice ao bs.length cap) bs a false := hM.rd.below ((Below.refl _ _).drew)
    refine (onext_any w wr.drew (w.heap.size + 1) _ bs a false rd' hl).mono ?_
    rintro E w7 ⟨p, ky, vl, a', bad', rfl, R7, gr7, hs⟩
    have hgx := hM.bxq
    have hB7 := (gr7.block w4.heap.size (show w4.heap.size < wr.drew.heap.size from hM.ltq) (by simp; omega)).trans (show wr.drew.heap[w4.heap.size]? = _ from hM.blk)
    have h07 := (gr7.block w.heap.size (show w.heap.size < wr.drew.heap.size from blk_lt hM.r0) (by simp)).trans (show wr.drew.heap[w.heap.size]? = _ from hM.r0)
    have ow7 : OwnO 65 (w4.heap.size + 1) w7 (.slice av nv kv) l := OwnO.keptg (show OwnO 65 (w4.heap.size + 1) wr.drew (.slice av nv kv) l from hM.own.below ((Below.refl _ _).drew)) gr7 (by omega)
    have sz7 : wr.heap.size ≤ w7.heap.size := gr7.size
    obtain ⟨V, hV, szV, belV, ownV⟩ := ops_step 65 w7 #[.bool p, .string ky, .string vl] 1 [⟨p, ky, vl⟩] rfl rfl (by simp [maxLen])
    have BV := (belV.block _ (blk_lt hB7)).trans hB7
    refine ⟨_, rfl, p, ky, vl, V, rfl, blk_cell hB7 2 rfl, hV, blk_cell BV 2 rfl, hide fun ty => ?_⟩
    obtain ⟨v2, w2, hr, own2, gr2, at2⟩ := run_append_ops_at (P := Tryz.prog) (w := V) 48 ty 65 (w4.heap.size + 1) Tryz.underlying48 Tryz.info65 _ l (ow7.below belV) _ [⟨p, ky, vl⟩] ownV.is (by have := hM.len.1; simp; omega) (by omega)
    have hne : ∀ g, g ≤ w4.heap.size → (Value.slice av nv kv).ownBlock ≠ some g := fun g hg e => by have := (hM.own.block g e).1; omega
    have B2 := (gr2.block _ (blk_lt BV) (fun e => hne _ (Nat.le_refl _) e.symm)).trans BV
    have R2 : Rdr w w2 (w.heap.size + 1) (.slice ao bs.length cap) bs a' bad' := by
     have RV := R7.below belV
     refine ⟨RV.1, RV.2.1, ?_, ?_, RV.2.2.2.2⟩
     ·exact RV.2.2.1.grown gr2 RV.2.2.1.size (fun k hk => by have := (hM.own.block k hk).1; omega)
     ·exact (gr2.block _ RV.lt (fun e => hne _ (by omega) e.symm)).trans RV.2.2.2.1
    have h02 := (gr2.block _ (blk_lt ((belV.block _ (blk_lt h07)).trans h07)) (fun e => hne _ (by omega) e.symm)).trans ((belV.block _ (blk_lt h07)).trans h07)
    obtain ⟨X, hX, bX, gX, fX⟩ := put_at3 B2 2 v2
    have szX : V.heap.size ≤ X.heap.size := Nat.le_trans gr2.size gX.size
    refine ⟨v2, w2, hr, ⟨a', bad', l ++ [⟨p, ky, vl⟩], ?_⟩, blk_cell B2 2 rfl, fX, ?_⟩
    ·rw [hX]
     refine ⟨?_, rfl, hgx, by omega, bX, (gX.block _ (blk_lt h02) (by simp; omega)).trans h02, own2.keptg gX (by omega), hM.st.next hs, ?_⟩
     ·refine ⟨R2.1, R2.2.1, below_put R2.2.2.1 gX (by omega) R2.2.2.1.size, (gX.block _ R2.lt (by simp; omega)).trans R2.2.2.2.1, R2.2.2.2.2⟩
     ·have := hM.len
      rw [List.length_append, List.length_singleton]
      omega
    ·obtain ⟨a1, k1, h1, _⟩ := own2.is.shape
     exact ⟨a1, _, k1, h1⟩)
   have hsub : ((j + 1 : Nat) : Int) - 1 = (j : Int) := by omega
   have hjw : IntKind.i64.wrap (j : Int) = (j : Int) := wrap_i64_small _ (by omega) (by omega)
   clear M hB hn0
   go_wp2_with fail
   go_region_law (first
    | (have ow := XX; refine step_append_at rfl (.tmp 29) (.tmp 32) 48 rfl (.slice av nv kv) (.slice (some ⟨w7.heap.size, 0, none⟩) 1 1) (by first | (simp [Act.eval]; done) | (simp [Act.eval, Act.put]; done)) (by first | (simp [Act.eval]; done) | (simp [Act.eval, Act.put]; done)) XX.out ?_; rintro v8 w8 ⟨J, d8, g8, a8, n8, k8, rfl⟩; have J := hide J)
    | (refine call_at rfl 115 #[.tmp 30] #[149] rfl Tryz.enters115 #[.pointer (some ⟨w.heap.size + 1, 0, none⟩)] (by first | (simp [Act.eval]; done) | (simp [Act.eval, Act.put]; done)) X1.out ?_; rintro v6 w7 ⟨p, ky, vl, V, rfl, d7, hV, v5, XX⟩))
   all_goals
    obtain ⟨a', bad', l', J'⟩ := J.out
    have JJ := hide J'
    clear J' J
    go_wp2
    go_roundw
    case rel => exact ⟨j, a', bad', _, l', by omega, by go_num, JJ⟩
    case measure => simp [intOf]
  ·cases bad with
   | true =>
    by_cases hn0 : n = 0
    ·have hn0' : ¬ (0 : Int) < n := by omega
     go_wp2_with fail
     refine (rdone_any w wr _ _ bs a true M.out.rd).mono ?_
     rintro E w8 ⟨rfl, q, rfl⟩
     rw [Bool.not_true, Bool.false_and]
     have DC : Hid (Rn.Dc bs 0 0 [] 5) := hide (.inr ⟨rfl, rfl, rfl, rfl, M.out.st.no⟩)
     have B0 : (wr.drewN q).heap[w.heap.size]? = some (.cells #[.int .i64 0, .int .i64 0, .slice none 0 0] 112 (0, 0)) := M.out.r0
     obtain ⟨z0, z1, z2⟩ : (wr.drewN q).cell? ⟨w.heap.size, 0, none⟩ = some (.int .i64 0) ∧ (wr.drewN q).cell? ⟨w.heap.size, 1, none⟩ = some (.int .i64 0) ∧ (wr.drewN q).cell? ⟨w.heap.size, 2, none⟩ = some (.slice none 0 0) := ⟨blk_cell B0 0 rfl, blk_cell B0 1 rfl, blk_cell B0 2 rfl⟩
     have s0 : (wr.drewN q).setCell ⟨w.heap.size, 0, none⟩ (.int .i64 0) = (wr.drewN q) := set_same B0 (j := 0) rfl
     have s1 : (wr.drewN q).setCell ⟨w.heap.size, 1, none⟩ (.int .i64 0) = (wr.drewN q) := set_same B0 (j := 1) rfl
     have s2 : (wr.drewN q).setCell ⟨w.heap.size, 2, none⟩ (.slice none 0 0) = (wr.drewN q) := set_same B0 (j := 2) rfl
     have f0 := blk_froz B0 0; have f1 := blk_froz B0 1; have f2 := blk_froz B0 2
     have BEL : Below w.heap.size w (wr.drewN q) := below_drewN M.out.rd.2.2.1 q
     clear B0 M
     go_wp2
     refine bodyPost_ret (v := .tuple #[.agg #[.int .i64 0, .int .i64 0, .slice none 0 0], .int .i64 5]) (by simp [results, Tryz.results72, go_sem, z0, z1, z2]) rfl ?_
     first | exact ⟨0, 0, 5, _, [], rfl, OwnO.nil _ _ _, DC, BEL⟩ | exact ⟨0, 0, 5, _, rfl, [], OwnO.nil _ _ _, DC, BEL⟩
    ·have hn0' : (0 : Int) < n := by omega
     go_wp2_with fail
     refine (rdone_any w wr _ _ bs a true M.out.rd).mono ?_
     rintro E w8 ⟨rfl, q, rfl⟩
     rw [Bool.not_true, Bool.false_and]
     have DC : Hid (Rn.Dc bs 0 0 [] 5) := hide (.inr ⟨rfl, rfl, rfl, rfl, M.out.st.no⟩)
     have B0 : (wr.drewN q).heap[w.heap.size]? = some (.cells #[.int .i64 0, .int .i64 0, .slice none 0 0] 112 (0, 0)) := M.out.r0
     obtain ⟨z0, z1, z2⟩ : (wr.drewN q).cell? ⟨w.heap.size, 0, none⟩ = some (.int .i64 0) ∧ (wr.drewN q).cell? ⟨w.heap.size, 1, none⟩ = some (.int .i64 0) ∧ (wr.drewN q).cell? ⟨w.heap.size, 2, none⟩ = some (.slice none 0 0) := ⟨blk_cell B0 0 rfl, blk_cell B0 1 rfl, blk_cell B0 2 rfl⟩
     have s0 : (wr.drewN q).setCell ⟨w.heap.size, 0, none⟩ (.int .i64 0) = (wr.drewN q) := set_same B0 (j := 0) rfl
     have s1 : (wr.drewN q).setCell ⟨w.heap.size, 1, none⟩ (.int .i64 0) = (wr.drewN q) := set_same B0 (j := 1) rfl
     have s2 : (wr.drewN q).setCell ⟨w.heap.size, 2, none⟩ (.slice none 0 0) = (wr.drewN q) := set_same B0 (j := 2) rfl
     have f0 := blk_froz B0 0; have f1 := blk_froz B0 1; have f2 := blk_froz B0 2
     have BEL : Below w.heap.size w (wr.drewN q) := below_drewN M.out.rd.2.2.1 q
     clear B0 M
     go_wp2
     refine bodyPost_ret (v := .tuple #[.agg #[.int .i64 0, .int .i64 0, .slice none 0 0], .int .i64 5]) (by simp [results, Tryz.results72, go_sem, z0, z1, z2]) rfl ?_
     first | exact ⟨0, 0, 5, _, [], rfl, OwnO.nil _ _ _, DC, BEL⟩ | exact ⟨0, 0, 5, _, rfl, [], OwnO.nil _ _ _, DC, BEL⟩
   | false =>
    obtain rfl : n = 0 := Nat.eq_zero_of_not_pos fun h => hgo ⟨h, rfl⟩
    go_wp2_with fail
    refine (rdone_any w wr _ _ bs a false M.out.rd).mono ?_
    rintro E w8 ⟨rfl, q, rfl⟩
    obtain ⟨t1, t2, t3, t4, t5, t6, t7⟩ := M.out.st.fin.good
    have T6 := hide t6
    have T7 := hide t7
    have T1 := hide t1
    clear t1 t6 t7
    rw [Bool.not_false, Bool.true_and]
    by_cases ha : a = bs.length
    ·rw [decide_eq_true ha]
     have HA := hide ha
     clear ha
     have hB : (wr.drewN q).heap[w4.heap.size]? = some (.cells #[.int .i64 x, .int .i64 y, .slice av nv kv] 112 (0, 0)) := M.out.blk
     have e0 := blk_cell hB 0 rfl
     have e1 := blk_cell hB 1 rfl
     have e2 := blk_cell hB 2 rfl
     have OQ : OwnO 65 (w4.heap.size + 1) (wr.drewN q) (.slice av nv kv) l := M.out.own.below (below_drewN (Below.refl _ _) q)
     have HC := hide (hcheckR_any x y (.slice av nv kv) l (wr.drewN q) OQ.is (fit_c T1.out) (by omega))
     unfold cmv at HC
     obtain ⟨ck, hck⟩ : ∃ c, Rn.chk x y l = c := ⟨_, rfl⟩
     rw [hck] at HC
     have HCK := hide hck
     clear hck
     obtain ⟨wq, hwq⟩ : ∃ W, wr.drewN q = W := ⟨_, rfl⟩
     rw [hwq] at hB e0 e1 e2 OQ HC ⊢
     have B9 : wq.heap[w.heap.size]? = some (.cells #[.int .i64 0, .int .i64 0, .slice none 0 0] 112 (0, 0)) := by rw [← hwq]; exact M.out.r0
     have bel9 : Below w.heap.size w wq := by rw [← hwq]; exact below_drewN M.out.rd.2.2.1 q
     clear hwq
     go_wp2_with fail
     refine HC.out.mono ?_
     rintro E wz ⟨rfl, belz⟩
     have B0 := (belz.block _ (blk_lt B9)).trans B9
     have C0 := (belz.block _ (blk_lt hB)).trans hB
     have OZ := OQ.below belz
     have BELZ := bel9.trans (belz.mono bel9.size)
     have hltz : w4.heap.size < wz.heap.size := blk_lt C0
     clear hB e0 e1 e2 OQ B9 bel9 belz HC
     by_cases hc0 : ck = 0
     ·subst hc0
      have DC := hide (T6.out ⟨by have := HA.out; omega, HCK.out⟩)
      obtain ⟨V, hV, bV, gV, ⟨z0, z1, z2⟩, ⟨f0, f1, f2⟩, ⟨r0, r1, r2⟩⟩ := res_step B0 (.int .i64 x) (.int .i64 y) (.slice av nv kv)
      have y0 := blk_cell C0 0 rfl
      have y1 := blk_cell C0 1 rfl
      have y2 := blk_cell C0 2 rfl
      have OV := hide ((OZ.keptg gV (by omega)).rebase (base' := w.heap.size) (by omega))
      have BV := hide (below_put BELZ gV (Nat.le_refl _) BELZ.size)
      clear B0 C0 bV gV OZ BELZ M T6 T7
      go_wp2
      refine bodyPost_ret (v := .tuple #[.agg #[.int .i64 x, .int .i64 y, .slice av nv kv], .int .i64 0]) (by simp [results, Tryz.results72, go_sem, r0, r1, r2]) rfl ?_
      first | exact ⟨x, y, 0, _, l, rfl, OV.out, DC, BV.out⟩ | exact ⟨x, y, 0, _, rfl, l, OV.out, DC, BV.out⟩
     ·have DC : Hid (Rn.Dc bs 0 0 [] 5) := hide (.inr ⟨rfl, rfl, rfl, rfl, T7.out fun h => hc0 (by rw [← HCK.out]; exact h.2)⟩)
      have hcb : (ck != 0) = true := by simp [hc0]
      obtain ⟨z0, z1, z2⟩ : wz.cell? ⟨w.heap.size, 0, none⟩ = some (.int .i64 0) ∧ wz.cell? ⟨w.heap.size, 1, none⟩ = some (.int .i64 0) ∧ wz.cell? ⟨w.heap.size, 2, none⟩ = some (.slice none 0 0) := ⟨blk_cell B0 0 rfl, blk_cell B0 1 rfl, blk_cell B0 2 rfl⟩
      have s0 : wz.setCell ⟨w.heap.size, 0, none⟩ (.int .i64 0) = wz := set_same B0 (j := 0) rfl
      have s1 : wz.setCell ⟨w.heap.size, 1, none⟩ (.int .i64 0) = wz := set_same B0 (j := 1) rfl
      have s2 : wz.setCell ⟨w.heap.size, 2, none⟩ (.slice none 0 0) = wz := set_same B0 (j := 2) rfl
      have f0 := blk_froz B0 0; have f1 := blk_froz B0 1; have f2 := blk_froz B0 2
      have BEL := BELZ
      clear B0 C0 OZ M T6 T7
      go_wp2
      refine bodyPost_ret (v := .tuple #[.agg #[.int .i64 0, .int .i64 0, .slice none 0 0], .int .i64 5]) (by simp [results, Tryz.results72, go_sem, z0, z1, z2]) rfl ?_
      first | exact ⟨0, 0, 5, _, [], rfl, OwnO.nil _ _ _, DC, BEL⟩ | exact ⟨0, 0, 5, _, rfl, [], OwnO.nil _ _ _, DC, BEL⟩
    ·rw [decide_eq_false ha]
     have DC : Hid (Rn.Dc bs 0 0 [] 5) := hide (.inr ⟨rfl, rfl, rfl, rfl, T7.out fun h => ha (by have := h.1; omega)⟩)
     have B0 : (wr.drewN q).heap[w.heap.size]? = some (.cells #[.int .i64 0, .int .i64 0, .slice none 0 0] 112 (0, 0)) := M.out.r0
     obtain ⟨z0, z1, z2⟩ : (wr.drewN q).cell? ⟨w.heap.size, 0, none⟩ = some (.int .i64 0) ∧ (wr.drewN q).cell? ⟨w.heap.size, 1, none⟩ = some (.int .i64 0) ∧ (wr.drewN q).cell? ⟨w.heap.size, 2, none⟩ = some (.slice none 0 0) := ⟨blk_cell B0 0 rfl, blk_cell B0 1 rfl, blk_cell B0 2 rfl⟩
     have s0 : (wr.drewN q).setCell ⟨w.heap.size, 0, none⟩ (.int .i64 0) = (wr.drewN q) := set_same B0 (j := 0) rfl
     have s1 : (wr.drewN q).setCell ⟨w.heap.size, 1, none⟩ (.int .i64 0) = (wr.drewN q) := set_same B0 (j := 1) rfl
     have s2 : (wr.drewN q).setCell ⟨w.heap.size, 2, none⟩ (.slice none 0 0) = (wr.drewN q) := set_same B0 (j := 2) rfl
     have f0 := blk_froz B0 0; have f1 := blk_froz B0 1; have f2 := blk_froz B0 2
     have BEL : Below w.heap.size w (wr.drewN q) := below_drewN M.out.rd.2.2.1 q
     clear B0 M
     go_wp2
     refine bodyPost_ret (v := .tuple #[.agg #[.int .i64 0, .int .i64 0, .slice none 0 0], .int .i64 5]) (by simp [results, Tryz.results72, go_sem, z0, z1, z2]) rfl ?_
     first | exact ⟨0, 0, 5, _, [], rfl, OwnO.nil _ _ _, DC, BEL⟩ | exact ⟨0, 0, 5, _, rfl, [], OwnO.nil _ _ _, DC, BEL⟩

end Go.Proofs.YtmmfakpphjjjfaaGreat

/- The contracts of OverBytes and ApartBytes. -/
namespace Go.Proofs.YtmmfakpphjjjfaaGreat
open Go.RowKit
set_option linter.unusedVariables false

def cpl (z : Int) : Int := bits BinOp.xor IntKind.u8 (if IntKind.u8.signed = true then -1 else IntKind.u8.max) z

structure Lists (m bl base : Nat) (w : World) (vs : Nat → Value) (zs : Nat → List Int) : Prop where
 cell : ∀ i, i < m → w.cell? ⟨bl, i, none⟩ = some (vs i)
 own : ∀ i, i < m → Own .u8 5 base w (vs i) (zs i)
 apart : ∀ i j, i < m → j < m → i ≠ j → (vs i).ownBlock = none ∨ (vs i).ownBlock ≠ (vs j).ownBlock
 table : ∀ i, i < m → (vs i).ownBlock ≠ some bl
 lens : ∀ i, i < m → (zs i).length ≤ 150000000000000

structure Copies (m bl base : Nat) (w0 wr : World) (vs us : Nat → Value) (zs : Nat → List Int) (k : Nat) : Prop where
 cell : ∀ i, i < m → wr.cell? ⟨bl, i, none⟩ = some (vs i)
 was : ∀ i, i < m → wr.cell? ⟨w0.heap.size, i, none⟩ = some (us i)
 new : ∀ i, i < m → Own .u8 5 (w0.heap.size + 1) wr (us i) (zs i)
 done : ∀ i, i < k → i < m → Own .u8 5 base wr (vs i) ((zs i).map cpl)
 left : ∀ i, k ≤ i → i < m → Own .u8 5 base wr (vs i) (zs i)
 below : Below base w0 wr
 keep : ∀ g, g < w0.heap.size → (∀ i, i < m → (vs i).ownBlock ≠ some g) → wr.heap[g]? = w0.heap[g]?

def two {α : Type} (a b : α) : Nat → α | 0 => a | _ => b

theorem fputR_any (vb : Value) (bs : List Int) (x : Int) (w : World) (hb : Is .u8 w vb bs) (hl : bs.length ≤ 140737488352900) (h0 : 0 ≤ x) (h1 : x < 9223372036854775808) :
  Calls Tryz.prog 162 #[vb, .int .i64 x] w fun e w' => ∃ v, e = .returned v ∧ Own .u8 5 w.heap.size w' v (bs ++ Vm.enc x.toNat) ∧ Below w.heap.size w w' := by
 go_enter Tryz.func162, Tryz.ntmps162
 go_wp2_with fail
 refine (appR_any _ bs x _ hb (by omega) (by omega) (by omega)).mono ?_
 rintro E w1 ⟨v1, rfl, own1, bel1⟩
 go_wp2
 go_ret
 exact ⟨_, rfl, own1, bel1⟩

set_option maxHeartbeats 1000000 in
theorem fappR_any (vb vr : Value) (bs r : List Int) (w : World) (hb : Is .u8 w vb bs) (hr : Is .u8 w vr r) (hl : bs.length ≤ 140737488351232) (hl' : r.length ≤ 140737488351232) :
  Calls Tryz.prog 136 #[vb, vr] w fun E w' => ∃ v', E = .returned (.tuple #[v', .int .i64 (ape r)]) ∧ Own .u8 5 w.heap.size w' v' (apd bs r) ∧ Below w.heap.size w w' := by
 obtain ⟨ro, rc, hv, hcap, hcm⟩ := hr.shape
 subst hv
 have HR := hide hr
 clear hr
 by_cases hlong : r.length ≤ 131072
 ·have e1 : ape r = 0 := if_pos hlong
  have e2 : apd bs r = bs ++ Vm.enc r.length ++ r := by unfold apd Fm.frm; rw [if_pos hlong, List.append_assoc]
  rw [e1, e2]
  have hn : ¬ (131072 : Int) < (r.length : Int) := by omega
  have hz : (Vm.enc r.length).length ≤ 3 := Fm.sz3 hlong
  have C1 := hide (fputR_any vb bs (r.length : Int) w hb (by omega) (by omega) (by omega))
  rw [Int.toNat_natCast] at C1
  clear e1 e2 hb
  go_enter Tryz.func136, Tryz.ntmps136
  go_wp2_with fail
  refine C1.out.mono ?_
  rintro E w1 ⟨v1, rfl, own1, bel1⟩
  clear C1
  have hr1 := HR.out.below bel1
  have sum : (bs ++ Vm.enc r.length).length + r.length ≤ 150000000000000 := by rw [List.length_append]; omega
  have s1 := bel1.size
  generalize hq : bs ++ Vm.enc r.length = q at *
  have HQ := hide hq
  clear hq
  go_wp2_with (at_builtin; refine wpList_append_is rfl (.tmp 14) (.tmp 15) 66 rfl .u8 5 w.heap.size 1 Tryz.underlying66 Tryz.info5 (by decide) _ q rfl own1 _ r rfl hr1 (by simp; omega) s1 ?_)
  intro v2 w2 own2 bel2 _
  have b3 := bel1.trans bel2
  rw [← HQ.out] at own2
  clear own1 hr1 bel1 bel2
  go_wp2
  go_ret2
  exact ⟨_, rfl, own2, b3⟩
 ·have e1 : ape r = 3 := if_neg hlong
  have e2 : apd bs r = [] := if_neg hlong
  rw [e1, e2]
  have hn : (131072 : Int) < (r.length : Int) := by omega
  go_enter Tryz.func136, Tryz.ntmps136
  go_wp2
  go_ret2
  exact ⟨_, rfl, Own.nil _ _ _ _, Below.refl _ _⟩

theorem rdr_rd {bs zs : List Int} {u a1 a2 : Nat} {b1 b2 : Bool} (h1 : SStep bs 131072 0 false u a1 b1) (h2 : BStep bs u a1 b1 zs a2 b2) :
  (b2 = false ∧ Fm.Rd bs zs a2 0) ∨ (b2 = true ∧ Fm.Rd bs [] 0 5) := by
 rcases h1 with ⟨h, _⟩ | ⟨_, rfl, rfl, rfl, hno⟩ | ⟨_, rfl, hu, hp, rfl⟩
 ·cases h
 ·rcases h2 with ⟨_, rfl, rfl, rfl⟩ | ⟨h, _⟩
  ·exact .inr ⟨rfl, rd_bad (by simpa using hno)⟩
  ·cases h
 ·rw [List.drop_zero] at hp
  rw [Nat.zero_add] at h2
  rcases h2 with ⟨h, rfl, rfl, rfl⟩ | ⟨_, h, rfl, rfl, rfl⟩
  ·have h : bs.length - Vm.sz u < u := by simpa using h
   exact .inr ⟨rfl, rd_short hp h⟩
  ·exact .inl ⟨rfl, rd_good hp hu h⟩

set_option maxHeartbeats 2000000 in
theorem freadR_any (vb : Value) (bs : List Int) (w : World) (hb : Is .u8 w vb bs) (hl : bs.length ≤ 150000000000000) :
  Calls Tryz.prog 71 #[vb] w fun E w' => ∃ (v : Value) (r : List Int) (n : Nat) (e : Int), E = .returned (.tuple #[v, .int .i64 n, .int .i64 e]) ∧ Own .u8 5 w.heap.size w' v r ∧ Below w.heap.size w w' ∧ Hid (Fm.Rd bs r n e) := by
 obtain ⟨ao, cap, rfl, _, _⟩ := hb.shape
 obtain ⟨W1, hW1, sz1, bel1, blk1⟩ := blk_step w #[.slice ao bs.length cap, .int .i64 0, .bool false] 151
 have r1 : Rdr w W1 w.heap.size (.slice ao bs.length cap) bs 0 false := ⟨hb, by omega, bel1, blk1, by omega⟩
 have C1 := hide (rsmall_any w W1 w.heap.size _ bs 0 false 131072 r1 hl (by omega))
 clear blk1 hb r1 bel1
 go_enter Tryz.func71, Tryz.ntmps71
 go_wp2_with fail
 refine C1.out.mono ?_
 rintro E w2 ⟨u, a1, b1, rfl, r2, g2, hs⟩
 have hu : u ≤ 131072 := by
  rcases hs with ⟨h, _⟩ | ⟨_, _, h, _⟩ | ⟨_, _, h, _⟩
  ·cases h
  ·omega
  ·exact h
 have C2 := hide (rbytes_any w w2 w.heap.size _ bs a1 b1 u r2 hl (by omega))
 have HS := hide hs
 have S2 := r2.2.2.1.size
 clear C1 hs r2 g2
 go_wp2_with fail
 refine C2.out.mono ?_
 rintro E w3 ⟨v3, zs, a2, b2, rfl, own3, r3, _, hb3⟩
 have B3 := hide r3.2.2.1
 have O3 := hide (own3.rebase S2)
 have k1 := r3.cell1
 have k2 := r3.cell2
 have RD := hide (rdr_rd HS.out hb3)
 clear C2 HS own3 r3 hb3
 cases b2
 ·have R : Hid (Fm.Rd bs zs a2 0) := hide (by rcases RD.out with h | h; exact h.2; cases h.1)
  clear RD
  go_wp2_with fail
  go_quiet (fail)
  go_wp2
  go_ret3
  exact ⟨_, zs, a2, 0, rfl, O3.out.drewN _, below_drewN B3.out _, R⟩
 ·have R : Hid (Fm.Rd bs [] 0 5) := hide (by rcases RD.out with h | h; cases h.1; exact h.2)
  clear RD
  go_wp2
  go_ret3
  exact ⟨_, [], 0, 5, rfl, Own.nil _ _ _ _, B3.out, R⟩

end Go.Proofs.YtmmfakpphjjjfaaGreat
