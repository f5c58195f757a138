/- Texts of one layer, one behind the other. -/
import Derived.Test.YtabfihicdphjeaaGO
import Derived.Test.YtabfihicdphjeaaGJ
import Derived.Test.YtabfihicdphjeaaGS
import Derived.Test.YtabfihicdphjeaaProg
import Derived.Test.YtabfihicdphjeaaG2
/- Commits that have come across; the epoch of a log; the next ship. -/
namespace Go.Proofs.Ytabfihicdphjeaa
open Go.RowKit
set_option linter.unusedVariables false

/-- The epoch of a log's last commit; 1, if there is none. -/
def epo17 (l : List Cm.Cv) : Int := if l.length = 0 then 1 else Cm.lastE 0 l

theorem epo_ok {l : List Cm.Cv} (h : Cm.Good 0 0 l) : Shp.lck (epo17 l) l = 0 ∧ 1 ≤ epo17 l ∧ epo17 l ≤ 1048576 := by
  have h1 : 1 ≤ epo17 l ∧ epo17 l ≤ 1048576 ∧ ¬ epo17 l < Cm.lastE 0 l := by
    unfold epo17
    split
    · rename_i h0
      rw [List.eq_nil_of_length_eq_zero h0]
      exact ⟨by omega, by omega, by show ¬ (1 : Int) < 0; omega⟩
    · rename_i h0
      have hp := Shp.prv_pos h l.length (Nat.le_refl _) (by omega)
      rw [List.take_length] at hp
      refine ⟨hp, ?_, by omega⟩
      have hl : l.length - 1 < l.length := by omega
      have hc := (Cm.good_at l 0 0 (l.length - 1) l[l.length - 1] h (List.getElem?_eq_getElem hl)).1
      have he := Shp.prv_is (l := l) (List.getElem?_eq_getElem hl)
      rw [show l.length - 1 + 1 = l.length by omega, List.take_length] at he
      rw [he]
      exact (Cm.chk_zero hc).2.1
  exact ⟨Shp.lck_ok (by omega) ((Cm.fol_good l 0 0 0).2 h) h1.2.2, h1.1, h1.2.1⟩

/-- What has come across. -/
structure Got (b : Nat) (w : World) (v : Value) (rs : List Cw) (l : List Cm.Cv) : Prop where
  c : OwnR 46 b w v rs
  o : CopyR b w rs
  i : ∀ c ∈ rs, In64 c.e ∧ In64 c.n
  f : FitC rs
  is : cvs rs = l

theorem Got.below {b : Nat} {w w' : World} {v : Value} {rs : List Cw} {l : List Cm.Cv} (h : Got b w v rs l) (hb : Below w.heap.size w w') : Got b w' v rs l := ⟨h.c.below hb, h.o.below hb, h.i, h.f, h.is⟩

theorem Got.isC {b : Nat} {w : World} {v : Value} {rs : List Cw} {l : List Cm.Cv} (h : Got b w v rs l) : IsC w v rs := ⟨h.c.row, fun c hc => ⟨(h.o c hc).is, h.i c hc⟩⟩

/-- What a ship brings is put behind it. -/
theorem Got.more {b : Nat} {w : World} {v vc : Value} {rs cs : List Cw} {l m : List Cm.Cv} (h : Got b w v rs l) (hb : b ≤ w.heap.size) (k : Got b w vc cs m) (hl : rs.length + cs.length ≤ 1000) :
    ∀ ty, ∃ v2 w2, (Builtin.append_ #[24, 24] ty #[v, vc]).run Try.prog w = .ok v2 w2 ∧ (∃ rs2, Hid (Got b w2 v2 rs2 (l ++ m)) ∧ w.grownBy w2 v.ownBlock) ∧ ∃ a n q, v2 = .slice a n q := fun ty => by
  obtain ⟨v2, w2, hr, own2, gr2, at2⟩ := run_append_coms_at (P := Try.prog) (w := w) 24 ty 46 b Try.underlying24 Try.info46 v rs h.c vc cs k.c.row (fun c hc => (k.o c hc).is.one) (by omega) hb
  have kt := KeepT.of_row h.c gr2
  have hmem : ∀ c ∈ rs ++ cs, c ∈ rs ∨ c ∈ cs := fun c hc => List.mem_append.1 hc
  refine ⟨v2, w2, hr, ⟨rs ++ cs, hide ⟨own2, fun c hc => ?_, fun c hc => ?_, fun c hc => ?_, ?_⟩, gr2⟩, ?_⟩
  · rcases hmem c hc with hc | hc
    · exact h.o.keepT kt c hc
    · exact k.o.keepT kt c hc
  · rcases hmem c hc with hc | hc
    · exact h.i c hc
    · exact k.i c hc
  · rcases hmem c hc with hc | hc
    · exact h.f c hc
    · exact k.f c hc
  · rw [← h.is, ← k.is]
    unfold cvs
    rw [List.map_append]
  · obtain ⟨a1, k1, h1, _⟩ := own2.row.shape
    exact ⟨a1, _, k1, h1⟩

/-- What the next ship of a log is. -/
theorem nxt_is {l : List Cm.Cv} (h : Cm.Good 0 0 l) (hl : l.length ≤ 40) (i : Nat) (hi : i ≤ l.length) : Shp.nxtE (epo17 l) l i = 0 ∧ (Shp.nxt (epo17 l) l i).f = (i : Int) + 1 ∧ (Shp.nxt (epo17 l) l i).cs = (l.drop i).take 4 ∧ Mm.Ok (Shp.nxt (epo17 l) l i) := by
  have h0 := (epo_ok h).1
  have hk := Shp.nxtE_ok (k := (i : Int)) h0 (by omega)
  refine ⟨hk.1, by rw [hk.2], by rw [hk.2, Int.toNat_natCast], Shp.nxt_ok hk.1⟩

end Go.Proofs.Ytabfihicdphjeaa

/- ShipAll, ShipHello: what they begin with. -/
namespace Go.Proofs.Ytabfihicdphjeaa
open Go.RowKit
set_option linter.unusedVariables false

theorem good_fol {l : List Cm.Cv} (h : Cm.Good 0 0 l) : Cm.fol 0 0 0 l = (0, 0) := by
  have k1 := (Cm.fol_good l 0 0 0).2 h
  exact Prod.ext k1 (Cm.fol_at l 0 0 0 k1)

theorem enc_len17 {m : Mm.Msg} (h : Mm.Ok m) : (Mm.enc m).length ≤ 30000000 := by
  unfold Mm.enc
  obtain ⟨h1, _, _, _, _, _, h6, h7, h8⟩ := Mm.hd_ok h
  have h2 := encs_small (l := Mm.hd m) (fun z hz => (h1 z hz).2)
  have h3 := cat_small (Mm.ok_cs h)
  have h4 : (Mm.hd m).length ≤ 2097157 ∧ m.cs.length ≤ 4 := by
    rcases h.2.2 with ⟨k, g⟩ | ⟨k, g⟩ | ⟨k, g⟩
    · have a := h6 k
      have b := (h1 (m.ss.length : Int) (by rw [Mm.hd_1 k]; simp)).2
      have c : m.cs.length = 0 := by rw [g.2.2.2.2.2.2]; rfl
      omega
    · have a := h7 k
      omega
    · have a := h8 k
      have c : m.cs.length = 0 := by rw [g.2.2.2.2.2.2]; rfl
      omega
  rw [List.length_append]
  omega

/-- What a ship's hello is. -/
theorem hel_is {l : List Cm.Cv} (h : Cm.Good 0 0 l) {r : Int} (h1 : 1 ≤ r) (h3 : r ≤ 3) : Shp.helE (epo17 l) r l = 0 ∧ Shp.hel (epo17 l) r l = ⟨1, epo17 l, r, l.length, Sm.told 0 l, 0, 0, []⟩ ∧ Mm.Ok (Shp.hel (epo17 l) r l) := by
  have h0 := (epo_ok h).1
  have hk := Shp.helE_ok h0 (show ¬ (r < 1 ∨ 3 < r) by omega)
  exact ⟨hk.1, hk.2, Shp.hel_ok hk.1⟩

/-- Where a log and a first part of it fork. -/
theorem fork_front {l : List Cm.Cv} (h : Cm.Good 0 0 l) (n : Nat) (hn : n ≤ l.length) : frE (Sm.told 0 l) l.length (Sm.told 0 (l.take n)) n = 0 ∧ ∀ x, Fr (Sm.told 0 l) l.length (Sm.told 0 (l.take n)) n x → x = n := by
  have ht := Cm.good_take h n
  have hl : (l.take n).length = n := by rw [List.length_take]; omega
  have k1 := Sm.told_ok h
  have k2 := Sm.told_ok ht
  rw [hl] at k2
  have hz : frE (Sm.told 0 l) l.length (Sm.told 0 (l.take n)) n = 0 := by
    unfold frE
    rw [if_pos (Sm.chk_zero.2 k1)]
    exact Sm.chk_zero.2 k2
  refine ⟨hz, fun x hx => ?_⟩
  have hf := Sm.fork_told h ht (k := n) hn (by omega) (by rw [List.take_take, Nat.min_self]) (fun i c d hi hc hd => by
    have := (List.getElem?_eq_some_iff.1 hd).1
    omega)
  rw [hl] at hf
  exact fr_one hx (.inl ⟨hz, hf⟩)

theorem Try.eqlF17 (a b c d : Int) (w : World) : (binOp .eql 42 (.agg #[.int .i64 a, .int .i64 b]) (.agg #[.int .i64 c, .int .i64 d])).run Try.prog w = .ok (.bool ((a == c) && (b == d))) w := by
  rw [run_eql_struct, run_equalIn_agg w 9999 42 _ _ (by kernel_rfl) (by kernel_rfl)]
  unfold Program.fieldsOf
  rw [Try.underlying42]
  simp [Op.eqFields, go_sem, Try.underlying27, Try.underlying3]
  by_cases h1 : a = c <;> by_cases h2 : b = d <;> simp [h1, h2]

end Go.Proofs.Ytabfihicdphjeaa

/- The contract of Pick. -/
namespace Go.Proofs.Ytabfihicdphjeaa
open Go.RowKit
set_option linter.unusedVariables false

set_option maxHeartbeats 400000 in
theorem pick_any (x n : Int) (w : World) (hn : 0 < n) (hn2 : n < 9223372036854775808) (hx : -9223372036854775808 ≤ x) (hx2 : x < 9223372036854775808) :
    Calls Try.prog 22 #[.int .i64 x, .int .i64 n] w fun e w' => (∃ p : Nat, (p : Int) < n ∧ e = .returned (.int .i64 p)) ∧ w = w' := by
  have hnz : (n == 0) = false := by simp; omega
  have ht1 : x.tmod n < n := Int.tmod_lt_of_pos x hn
  have ht2 : -n < x.tmod n := Int.lt_tmod_of_pos x hn
  by_cases h : x.tmod n < 0
  · go_enter Try.func22, Try.ntmps22
    go_wp2
    go_ret
    exact ⟨⟨(x.tmod n + n).toNat, by omega, ret_i64 (by omega)⟩, rfl⟩
  · go_enter Try.func22, Try.ntmps22
    go_wp2
    go_ret
    exact ⟨⟨(x.tmod n).toNat, by omega, ret_i64 (by omega)⟩, rfl⟩

/-- An integer of 64 bits. -/
def I64 (z : Int) : Prop := -9223372036854775808 ≤ z ∧ z ≤ 9223372036854775807

def pk (x n : Int) : Int := if x.tmod n < 0 then x.tmod n + n else x.tmod n

theorem pk_lt (x n : Int) (hn : 0 < n) : 0 ≤ pk x n ∧ pk x n < n := by
  have ht1 : x.tmod n < n := Int.tmod_lt_of_pos x hn
  have ht2 : -n < x.tmod n := Int.lt_tmod_of_pos x hn
  unfold pk
  split <;> omega

set_option maxHeartbeats 400000 in
theorem pickx_any (x n : Int) (w : World) (hn : 0 < n) (hn2 : n < 9223372036854775808) (hx : I64 x) :
    Calls Try.prog 22 #[.int .i64 x, .int .i64 n] w fun e w' => e = .returned (.int .i64 (pk x n)) ∧ w = w' := by
  have hnz : (n == 0) = false := by simp; omega
  obtain ⟨hx1, hx2⟩ := hx
  have ht1 : x.tmod n < n := Int.tmod_lt_of_pos x hn
  have ht2 : -n < x.tmod n := Int.lt_tmod_of_pos x hn
  by_cases h : x.tmod n < 0
  · have e : pk x n = x.tmod n + n := by simp [pk, h]
    rw [e]
    clear e
    go_enter Try.func22, Try.ntmps22
    go_wp2
    go_ret
    exact ⟨ret_i64 (by omega), rfl⟩
  · have e : pk x n = x.tmod n := by simp [pk, h]
    rw [e]
    clear e
    go_enter Try.func22, Try.ntmps22
    go_wp2
    go_ret
    exact ⟨ret_i64 (by omega), rfl⟩

end Go.Proofs.Ytabfihicdphjeaa
