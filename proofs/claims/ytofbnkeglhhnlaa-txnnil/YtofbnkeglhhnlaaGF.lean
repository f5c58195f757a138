/- Texts of one layer, one behind the other. -/
import Derived.Test.YtofbnkeglhhnlaaProg
import Derived.Test.YtofbnkeglhhnlaaG2
import Derived.Test.YtofbnkeglhhnlaaG8
import Derived.Test.YtofbnkeglhhnlaaGE
import Derived.Test.YtofbnkeglhhnlaaG5
/- The contract of Pick. -/
namespace Go.Proofs.Ytofbnkeglhhnlaa
open Go.RowKit
set_option linter.unusedVariables false

set_option maxHeartbeats 400000 in
theorem pick_any (x n : Int) (w : World) (hn : 0 < n) (hn2 : n < 9223372036854775808) (hx : -9223372036854775808 ≤ x) (hx2 : x < 9223372036854775808) :
    Calls Try.prog 22 #[.int .i64 x, .int .i64 n] w fun e w' => (∃ p : Nat, (p : Int) < n ∧ e = .returned (.int .i64 p)) ∧ w = w' := by
  have hnz : (n == 0) = false := by simp; omega
  have ht1 : x.tmod n < n := Int.tmod_lt_of_pos x hn
  have ht2 : -n < x.tmod n := Int.lt_tmod_of_pos x hn
  by_cases h : x.tmod n < 0
  · go_enter Try.func22, Try.ntmps22
    go_wp2
    go_ret
    exact ⟨⟨(x.tmod n + n).toNat, by omega, ret_i64 (by omega)⟩, rfl⟩
  · go_enter Try.func22, Try.ntmps22
    go_wp2
    go_ret
    exact ⟨⟨(x.tmod n).toNat, by omega, ret_i64 (by omega)⟩, rfl⟩

/-- An integer of 64 bits. -/
def I64 (z : Int) : Prop := -9223372036854775808 ≤ z ∧ z ≤ 9223372036854775807

def pk (x n : Int) : Int := if x.tmod n < 0 then x.tmod n + n else x.tmod n

theorem pk_lt (x n : Int) (hn : 0 < n) : 0 ≤ pk x n ∧ pk x n < n := by
  have ht1 : x.tmod n < n := Int.tmod_lt_of_pos x hn
  have ht2 : -n < x.tmod n := Int.lt_tmod_of_pos x hn
  unfold pk
  split <;> omega

set_option maxHeartbeats 400000 in
theorem pickx_any (x n : Int) (w : World) (hn : 0 < n) (hn2 : n < 9223372036854775808) (hx : I64 x) :
    Calls Try.prog 22 #[.int .i64 x, .int .i64 n] w fun e w' => e = .returned (.int .i64 (pk x n)) ∧ w = w' := by
  have hnz : (n == 0) = false := by simp; omega
  obtain ⟨hx1, hx2⟩ := hx
  have ht1 : x.tmod n < n := Int.tmod_lt_of_pos x hn
  have ht2 : -n < x.tmod n := Int.lt_tmod_of_pos x hn
  by_cases h : x.tmod n < 0
  · have e : pk x n = x.tmod n + n := by simp [pk, h]
    rw [e]
    clear e
    go_enter Try.func22, Try.ntmps22
    go_wp2
    go_ret
    exact ⟨ret_i64 (by omega), rfl⟩
  · have e : pk x n = x.tmod n := by simp [pk, h]
    rw [e]
    clear e
    go_enter Try.func22, Try.ntmps22
    go_wp2
    go_ret
    exact ⟨ret_i64 (by omega), rfl⟩

end Go.Proofs.Ytofbnkeglhhnlaa

/- The calls of a script of a txn, in memory. -/
namespace Go.Proofs.Ytofbnkeglhhnlaa
open Go.RowKit
set_option linter.unusedVariables false

/-- A call as it stands in memory. -/
structure Tc where
  k : Int
  key : ByteArray
  val : ByteArray
  n : Int

def tcc (a : Tc) : List Value := [.int .i64 a.k, .string a.key, .string a.val, .int .i64 a.n]
theorem tcc_len (a : Tc) : (tcc a).length = 4 := rfl
def tcv (a : Tc) : Value := .agg #[.int .i64 a.k, .string a.key, .string a.val, .int .i64 a.n]

def TcOk (a : Tc) : Prop := I64 a.k ∧ I64 a.n
def TcFit (a : Tc) : Prop := a.key.size ≤ 140737488351232 ∧ a.val.size ≤ 140737488351232

/-- A slice of calls. -/
def IsT (w : World) (v : Value) (l : List Tc) : Prop := RowG tcc w v l ∧ ∀ a ∈ l, TcOk a
def FitT (l : List Tc) : Prop := ∀ a ∈ l, TcFit a

theorem IsT.below {w w' : World} {v : Value} {l : List Tc} (h : IsT w v l) (hb : Below w.heap.size w w') : IsT w' v l := ⟨h.1.below hb, h.2⟩

theorem IsT.full {w : World} {v : Value} {l : List Tc} (h : IsT w v l) (hne : 0 < l.length) :
    ∃ b off cap, v = .slice (some ⟨b, off, none⟩) l.length cap ∧ l.length ≤ cap ∧ cap ≤ maxLen ∧ b < w.heap.size ∧
      ∀ i a, l[i]? = some a → w.cell? ⟨b, off + i * 4, none⟩ = some (.int .i64 a.k) ∧ w.cell? ⟨b, off + i * 4 + 1, none⟩ = some (.string a.key) ∧ w.cell? ⟨b, off + i * 4 + 2, none⟩ = some (.string a.val) ∧ w.cell? ⟨b, off + i * 4 + 3, none⟩ = some (.int .i64 a.n) := by
  obtain ⟨b, off, cap, hv, h1, h2, h3, h4⟩ := h.1.full tcc_len (by decide) hne
  refine ⟨b, off, cap, hv, h1, h2, h3, fun i a ha => ?_⟩
  have := h4 i a ha
  exact ⟨by simpa using this 0 _ rfl, by simpa using this 1 _ rfl, by simpa using this 2 _ rfl, by simpa using this 3 _ rfl⟩

end Go.Proofs.Ytofbnkeglhhnlaa

/- Law 16: two txns beside one another. -/
namespace Go.Proofs.Ytofbnkeglhhnlaa
open Go.RowKit
open Bm (Ov)
set_option linter.unusedVariables false

theorem Nxt.ok {p : Nat} {F : Nat → Prop} {w : World} {s : Tx.St} (h : Nxt p F w s) : Tx.Ok s := by
  obtain ⟨v, hv, _⟩ := h
  exact hv.ok

/-- The program's txn and the document's. -/
structure PT (w0 w : World) (s t : Tx.St) (p x : Nat) (F G : Nat → Prop) : Prop where
  ps : Pz p F w s
  nx : Nxt x G w t
  ap : ∀ g, F g → ¬ G g
  fb : ∀ g, F g → w0.heap.size ≤ g
  gb : ∀ g, G g → w0.heap.size ≤ g
  bel : Below w0.heap.size w0 w

/-- What a call of both leaves. -/
def TN (w0 : World) (p x : Nat) (w' : World) : Prop := ∃ s' F' G', PT w0 w' s' s' p x F' G'

section
variable {w0 w w' : World} {s t s' : Tx.St} {p x : Nat} {F G : Nat → Prop}

theorem PT.below (h : PT w0 w s t p x F G) (hb : Below w.heap.size w w') : PT w0 w' s t p x F G :=
  ⟨h.ps.below hb, h.nx.below hb, h.ap, h.fb, h.gb, h.bel.trans (hb.mono h.bel.size)⟩

theorem PT.stepP (h : PT w0 w s t p x F G) (hs : PzS p F w w' s') : ∃ F', PT w0 w' s' t p x F' G ∧ Out F w w' := by
  obtain ⟨F', k, o, hsub⟩ := hs
  refine ⟨F', ⟨k, h.nx.out o fun g hg e => h.ap g e hg, fun g hf hg => ?_, fun g hf => ?_, h.gb, h.bel.trans (o.below h.fb h.bel.size)⟩, o⟩
  · rcases hsub g hf with e | e
    · exact h.ap g e hg
    · have := h.nx.lt g hg
      omega
  · rcases hsub g hf with e | e
    · exact h.fb g e
    · exact Nat.le_trans h.bel.size e

theorem PT.stepN (h : PT w0 w s t p x F G) (hs : NxS x G w w' s') : ∃ G', PT w0 w' s s' p x F G' ∧ Out G w w' := by
  obtain ⟨G', k, o, hsub⟩ := hs
  refine ⟨G', ⟨h.ps.out o h.ap, k, fun g hf hg => ?_, h.fb, fun g hg => ?_, h.bel.trans (o.below h.gb h.bel.size)⟩, o⟩
  · rcases hsub g hg with e | e
    · exact h.ap g hf e
    · have := h.ps.lt g hf
      omega
  · rcases hsub g hg with e | e
    · exact h.gb g e
    · exact Nat.le_trans h.bel.size e

end

end Go.Proofs.Ytofbnkeglhhnlaa

/- Law 16: lives. -/
namespace Go.Proofs.Ytofbnkeglhhnlaa
open Go.RowKit
open Bm (Ov)
set_option linter.unusedVariables false

def bA : ByteArray := ⟨#[97]⟩
def bB : ByteArray := ⟨#[98]⟩
def b1 : ByteArray := ⟨#[49]⟩
def b2 : ByteArray := ⟨#[50]⟩
def oPA : Ov := ⟨true, ⟨#[97]⟩, ⟨#[49]⟩⟩
def oDA : Ov := ⟨false, ⟨#[97]⟩, ⟨#[]⟩⟩

theorem tx_add1 : Tx.addE Tx.new oPA = 0 ∧ Tx.add Tx.new oPA = ⟨[oPA], false⟩ := ⟨by rfl, by rfl⟩
theorem tx_add2 : Tx.addE ⟨[oPA], false⟩ oDA = 0 ∧ Tx.add ⟨[oPA], false⟩ oDA = ⟨[oPA, oDA], false⟩ := ⟨by rfl, by rfl⟩
theorem tx_get2 : Tx.gtV ⟨[oPA, oDA], false⟩ ⟨#[97]⟩ = ⟨#[]⟩ ∧ Tx.gtM ⟨[oPA, oDA], false⟩ ⟨#[97]⟩ = true ∧ Tx.gtT ⟨[oPA, oDA], false⟩ ⟨#[97]⟩ = false := by
  have h : Tx.lst ⟨#[97]⟩ [oPA, oDA] = some oDA := by
    rw [show [oPA, oDA] = [oPA] ++ [oDA] from rfl, Tx.lst_snoc, if_pos (show oDA.k = ⟨#[97]⟩ from rfl)]
  refine ⟨?_, ?_, ?_⟩
  · unfold Tx.gtV
    rw [if_neg (by decide)]
    simp only [h]
    rfl
  · unfold Tx.gtM
    rw [if_neg (by decide)]
    simp only [h]
    rfl
  · unfold Tx.gtT
    rw [if_neg (by decide)]
    simp only [h]
    rfl

set_option maxRecDepth 20000 in
set_option maxHeartbeats 2000000 in
theorem tlives_any (w : World) : Calls Try.prog 8 #[] w fun E w' => E = .returned (.bool true) ∧ Below w.heap.size w w' := by
  have HZ1 : Hid (∀ p F W, Pz p F W Tx.new → Calls Try.prog 10 #[.pointer (some ⟨p, 0, none⟩), .string ⟨#[97]⟩, .string ⟨#[49]⟩] W fun E w' => E = .returned (.int .i64 0) ∧ PzS p F W w' ⟨[oPA], false⟩) := hide fun p F W h => by
    have := zput_any p F W Tx.new ⟨#[97]⟩ ⟨#[49]⟩ h (by decide) (by decide)
    rw [show (⟨true, ⟨#[97]⟩, ⟨#[49]⟩⟩ : Ov) = oPA from rfl, tx_add1.1, tx_add1.2] at this
    exact this
  have HZ2 : Hid (∀ p F W, Pz p F W ⟨[oPA], false⟩ → Calls Try.prog 11 #[.pointer (some ⟨p, 0, none⟩), .string ⟨#[97]⟩] W fun E w' => E = .returned (.int .i64 0) ∧ PzS p F W w' ⟨[oPA, oDA], false⟩) := hide fun p F W h => by
    have := zdel_any p F W ⟨[oPA], false⟩ ⟨#[97]⟩ h (by decide)
    rw [show (⟨false, ⟨#[97]⟩, ⟨#[]⟩⟩ : Ov) = oDA from rfl, tx_add2.1, tx_add2.2] at this
    exact this
  have HZ3 : Hid (∀ p F W, Pz p F W ⟨[oPA, oDA], false⟩ → Calls Try.prog 13 #[.pointer (some ⟨p, 0, none⟩), .string ⟨#[97]⟩] W fun E w' => E = .returned (.tuple #[.string ⟨#[]⟩, .bool true, .bool false]) ∧ Below W.heap.size W w') := hide fun p F W h => by
    have := zget_any p F W ⟨[oPA, oDA], false⟩ ⟨#[97]⟩ h
    rw [tx_get2.1, tx_get2.2.1, tx_get2.2.2] at this
    exact this
  go_enter Try.func8, Try.ntmps8
  go_wp2_with fail
  refine (zbegin_any w).mono ?_
  rintro E w1 ⟨p, F, rfl, h1, fb, b1⟩
  have X1 := hide (HZ1.out p F w1 h1)
  have B1 := hide b1
  have FB := hide fb
  clear h1 fb b1
  go_wp2_with fail
  refine X1.out.mono ?_
  rintro E w2 ⟨rfl, F2, h2, o2, s2⟩
  have FB2 : Hid (∀ g, F2 g → w.heap.size ≤ g) := hide fun g hg => (s2 g hg).elim (FB.out g) fun e => Nat.le_trans B1.out.size e
  have B2 := hide (B1.out.trans (o2.below FB.out B1.out.size))
  have X2 := hide (HZ2.out p F2 w2 h2)
  clear h2 o2 s2 X1
  go_wp2_with fail
  refine X2.out.mono ?_
  rintro E w3 ⟨rfl, F3, h3, o3, s3⟩
  have B3 := hide (B2.out.trans (o3.below FB2.out B2.out.size))
  have X3 := hide (HZ3.out p F3 w3 h3)
  have H3 := hide h3
  clear h3 o3 s3 X2
  go_wp2_with fail
  refine X3.out.mono ?_
  rintro E w4 ⟨rfl, b4⟩
  have B4 := hide (B3.out.trans (b4.mono B3.out.size))
  have X4 := hide (zlen_any p F3 w4 _ (H3.out.below b4))
  rw [show Tx.len ⟨[oPA, oDA], false⟩ = 2 from rfl] at X4
  clear X3 b4
  go_wp2_with fail
  refine X4.out.mono ?_
  rintro E w5 ⟨rfl, rfl⟩
  go_wp2
  go_ret
  exact ⟨rfl, B4.out⟩

end Go.Proofs.Ytofbnkeglhhnlaa

/- Law 16: a txn of the statement's own. -/
namespace Go.Proofs.Ytofbnkeglhhnlaa
open Go.RowKit
open Bm (Ov)
set_option linter.unusedVariables false

/-- A txn that was made behind w0. -/
structure PW (w0 w : World) (p : Nat) (F : Nat → Prop) (s : Tx.St) : Prop where
  ps : Pz p F w s
  fb : ∀ g, F g → w0.heap.size ≤ g
  bel : Below w0.heap.size w0 w

section
variable {w0 w w' : World} {s s' : Tx.St} {p : Nat} {F : Nat → Prop}

theorem PW.below (h : PW w0 w p F s) (hb : Below w.heap.size w w') : PW w0 w' p F s := ⟨h.ps.below hb, h.fb, h.bel.trans (hb.mono h.bel.size)⟩

theorem PW.step (h : PW w0 w p F s) (hs : PzS p F w w' s') : ∃ F', PW w0 w' p F' s' ∧ Out F w w' := by
  obtain ⟨F', k, o, hsub⟩ := hs
  refine ⟨F', ⟨k, fun g hg => ?_, h.bel.trans (o.below h.fb h.bel.size)⟩, o⟩
  rcases hsub g hg with e | e
  · exact h.fb g e
  · exact Nat.le_trans h.bel.size e

/-- A list that was made behind the txn's blocks stays. -/
theorem OwnO.past {e base : Nat} {v : Value} {l : List Ov} (h : OwnO e base w v l) (ho : Out F w w') (hF : ∀ g, F g → g < base) : OwnO e base w' v l :=
  row_agree h fun g hg => ho.block g (h.block g hg).2 fun k => by
    have := (h.block g hg).1
    have := hF g k
    omega

end

end Go.Proofs.Ytofbnkeglhhnlaa
