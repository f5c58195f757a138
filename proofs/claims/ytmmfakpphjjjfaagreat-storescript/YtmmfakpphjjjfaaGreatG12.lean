/- Texts of one layer, one behind the other. -/
import Derived.Test.YtmmfakpphjjjfaaGreatG4
import Derived.Laws.BytesArg
import Derived.Test.YtmmfakpphjjjfaaGreatG8
import Derived.Test.YtmmfakpphjjjfaaGreatG11
/- The contracts of op's readCounted and Read. -/
namespace Go.Proofs.YtmmfakpphjjjfaaGreat
open Go.RowKit
set_option linter.unusedVariables false

theorem Is.conv {w : World} {v : Value} {zs : List Int} (h : Is .u8 w v zs) {P : Program} {src e dst : TypeId} (hs : P.underlying src = some (.slice e)) (he : P.underlying e = some (.int .u8)) (hd : P.underlying dst = some .string) :
  (convert src dst v).run P w = .ok (.string ⟨(Om.byts zs).toArray⟩) w := by
 by_cases hz : 0 < zs.length
 ·obtain ⟨b, o, c, rfl, _, _, _, hc⟩ := h.full hz
  exact run_convert_bytes_arg w src e hs he b o zs.length c zs rfl hc dst hd
 ·have : zs = [] := List.eq_nil_of_length_eq_zero (by omega)
  subst this
  obtain ⟨ao, c, rfl⟩ := h.bare
  cases ao with
  | none => exact run_convert_bytes_nil w src e hs he 0 c dst hd
  | some ad =>
   rw [run_convert_bytes_string w src dst e _ 0 c hs he hd, run_bytesToString w ad 0 c [] (by have := run_loadCells_list (P := P) w ad [] (by simp); simpa using this)]
   rfl

theorem Is.bytes {w : World} {v : Value} {zs : List Int} (h : Is .u8 w v zs) : ∀ z ∈ zs, 0 ≤ z ∧ z < 256 := by
 intro z hz
 obtain ⟨i, hi, rfl⟩ := List.getElem_of_mem hz
 have := h.byte i
 simpa [List.getD, hi] using this

theorem cres_bad {bs : List Int} {most : Nat} {u i g : Int} (hS : SRes bs most u i g) (hg : g ≠ 0) (hm : most ≤ 64) : ∀ t : List UInt8, t.length ≤ most → ¬ Om.cnt t <+: bs := by
 intro t ht hp
 have hp1 : Vm.enc t.length <+: bs := (List.prefix_append _ _).trans hp
 rcases hS with ⟨_, _, _, h⟩ | ⟨_, _, _, x, n, e, hR, hc⟩
 ·exact hg h
 ·have := Vm.res_good hR (u := t.length) (by omega) hp1
  omega

theorem cres_short {bs : List Int} {most : Nat} {u i : Int} (hR : Vm.Res bs u i 0) (hs : (bs.length : Int) - i < u) : ∀ t : List UInt8, t.length ≤ most → most ≤ 64 → ¬ Om.cnt t <+: bs := by
 intro t ht hm hp
 have hp1 : Vm.enc t.length <+: bs := (List.prefix_append _ _).trans hp
 have := Vm.res_good hR (u := t.length) (by omega) hp1
 have h2 := hp.length_le
 rw [Om.cnt_len] at h2
 omega

theorem cres_good {bs : List Int} {most u n : Nat} (hb : ∀ z ∈ bs, 0 ≤ z ∧ z < 256) (hR : Vm.Res bs u n 0) (hu : u ≤ most) (hs : n + u ≤ bs.length) :
  Om.CRes bs most (Om.byts ((bs.drop n).take u)) (n + u) 0 := by
 have hl : (Om.byts ((bs.drop n).take u)).length = u := by rw [Om.byts_len, List.length_take, List.length_drop]; omega
 rcases hR with ⟨x, _, hp, h1, h2, _⟩ | ⟨_, _, _, h⟩
 ·have hx : x = u := by omega
  have hn : n = Vm.sz u := by rw [hx] at h2; omega
  subst hx
  refine .inl ⟨rfl, by rw [hl]; exact hu, ?_, ?_⟩
  ·unfold Om.cnt
   rw [hl, Om.ints_byts (fun z hz => hb z (List.mem_of_mem_drop (List.mem_of_mem_take hz)))]
   obtain ⟨r, hr⟩ := hp
   have hln : (Vm.enc x).length = n := hn.symm
   have : bs.drop n = r := by rw [← hr, ← hln]; simp
   rw [this, ← hr]
   exact (List.prefix_append_right_inj _).2 (List.take_prefix _ _)
  ·rw [Om.cnt_len, hl, hn]
 ·simp at h

set_option maxRecDepth 20000 in
set_option maxHeartbeats 400000 in
theorem rcount_any (vb : Value) (bs : List Int) (a most : Nat) (w : World) (hb : Is .u8 w vb bs) (hl : bs.length ≤ 140737488355328) (h0 : 0 < bs.length) (ha : a ≤ bs.length) (hm : most ≤ 64) :
  Calls Tryz.prog 166 #[vb, .int .i64 a, .int .i64 most] w fun E w' => ∃ (s : ByteArray) (n : Nat) (d e : Int), E = .returned (.tuple #[.string s, .int .i64 d, .int .i64 e]) ∧ w = w' ∧ Om.CRes (bs.drop a) most s.data.toList n e ∧ (e = 0 → d = ((a + n : Nat) : Int) ∧ a + n ≤ bs.length) := by
 have hby := hb.bytes
 obtain ⟨b1, o1, c1, rfl, hcap, hcm, hB1, hc1⟩ := hb.full h0
 have isub := hb.sub a bs.length ha (Nat.le_refl _)
 rw [List.take_of_length_le (by simp)] at isub
 obtain ⟨u, i, g, hS⟩ := sres_is (bs.drop a) most
 have hS' := hS
 rcases hS with ⟨hR, h1, h2, rfl⟩ | ⟨rfl, rfl, rfl, x, n, e, hR, hcase⟩
 ·have hbd := Vm.res_bounds hR
  have hdl : ((bs.drop a).length : Int) = bs.length - a := by rw [List.length_drop]; omega
  obtain ⟨un, rfl⟩ : ∃ un : Nat, u = un := ⟨u.toNat, by omega⟩
  obtain ⟨n, rfl⟩ : ∃ n : Nat, i = n := ⟨i.toNat, by omega⟩
  have hn10 : n ≤ 10 := by omega
  have hna : a + n ≤ bs.length := by omega
  have hca : a < c1 := by
   rcases hR with ⟨x, _, hp, _⟩ | ⟨_, _, _, h⟩
   ·have := hp.length_le
    have := Vm.sz_pos x
    unfold Vm.sz at this
    omega
   ·simp at h
  have hca' : c1 ≠ a := by omega
  by_cases hs : bs.length - (a + n) < un
  ·have HG := hide (cres_short (most := most) hR (by rw [hdl]; omega))
   have hs' : (bs.length : Int) - ((a : Int) + n) < un := by omega
   clear hc1 hby
   have HS := hide hS'
   clear hS' hbd hdl
   go_enter Tryz.func166, Tryz.ntmps166
   go_wp2_with fail
   refine (small_any _ (bs.drop a) most un n 0 _ isub (by rw [List.length_drop]; omega) (by omega) (by omega) HS.out).mono ?_
   rintro E w1 ⟨rfl, rfl⟩
   go_wp2
   go_ret3
   exact ⟨_, 0, _, _, rfl, rfl, .inr ⟨rfl, rfl, rfl, fun t ht => HG.out t ht hm⟩, fun h => by simp at h⟩
  ·have isb := hb.sub (a + n) (a + n + un) (by omega) (by omega)
   rw [show a + n + un - (a + n) = un by omega] at isb
   have hconv := isb.conv Tryz.underlying66 Tryz.underlying5 Tryz.underlying9
   have hg := cres_good (bs := bs.drop a) (most := most) (u := un) (n := n) (fun z hz => hby z (List.mem_of_mem_drop hz)) hR (by omega) (by rw [List.length_drop]; omega)
   rw [List.drop_drop] at hg
   generalize hbt : Om.byts ((bs.drop (a + n)).take un) = bt at *
   have HG := hide hg
   have HS := hide hS'
   have hs' : ¬ (bs.length : Int) - ((a : Int) + n) < un := by omega
   by_cases hcn : c1 = a + n
   ·have hun : un = 0 := by omega
    subst hun
    have hbt0 : bt = [] := by rw [← hbt]; simp [Om.byts]
    subst hbt0
    have isz : Is .u8 w (.slice (some ⟨b1, o1, none⟩) 0 0) [] := ⟨by simp, .inr ⟨_, 0, rfl, by simp, by simp, by simp⟩⟩
    have hconv0 := isz.conv Tryz.underlying66 Tryz.underlying5 Tryz.underlying9
    rw [show Om.byts [] = [] from rfl] at hconv0
    have hS0 : SRes (bs.drop a) most 0 n 0 := by simpa using hS'
    have HS0 := hide hS0
    clear hS0 HS hS' hbd hdl hc1 hby hbt hg isb hb hconv isz hR h2
    subst hcn
    rw [show a + n - a = n by omega] at isub
    go_enter Tryz.func166, Tryz.ntmps166
    go_wp2_with fail
    refine (small_any _ (bs.drop a) most 0 n 0 _ isub (by rw [List.length_drop]; omega) (by omega) (by omega) HS0.out).mono ?_
    rintro E w1 ⟨rfl, rfl⟩
    go_wp2
    go_ret3
    exact ⟨⟨#[]⟩, n + 0, _, _, rfl, rfl, HG.out, fun _ => ⟨by omega, by omega⟩⟩
   ·clear hS' hbd hdl hc1 hby hbt hg isb hb
    go_enter Tryz.func166, Tryz.ntmps166
    go_wp2_with fail
    refine (small_any _ (bs.drop a) most un n 0 _ isub (by rw [List.length_drop]; omega) (by omega) (by omega) HS.out).mono ?_
    rintro E w1 ⟨rfl, rfl⟩
    go_wp2
    go_ret3
    exact ⟨⟨bt.toArray⟩, n + un, _, _, rfl, rfl, HG.out, fun _ => ⟨by omega, by omega⟩⟩
 ·have HG := hide (cres_bad hS' (by simp) hm)
  have HS := hide hS'
  clear hS' hR hcase hc1 hby
  by_cases hca : c1 = a
  ·subst hca
   have e1 : bs.length = c1 := by omega
   have e2 : bs.drop c1 = [] := List.drop_eq_nil_of_le (by omega)
   have isz : Is .u8 w (.slice (some ⟨b1, o1, none⟩) 0 0) [] := ⟨by simp, .inr ⟨_, 0, rfl, by simp, by simp, by simp⟩⟩
   rw [e2] at HS
   have E1 := hide e1
   clear e2
   go_enter Tryz.func166, Tryz.ntmps166
   go_wp2_with fail
   refine (small_any _ [] most 0 0 5 _ isz (by simp) (by omega) (by omega) HS.out).mono ?_
   rintro E w1 ⟨rfl, rfl⟩
   go_wp2
   go_ret3
   exact ⟨_, 0, _, _, rfl, rfl, .inr ⟨rfl, rfl, rfl, HG.out⟩, fun h => by simp at h⟩
  ·go_enter Tryz.func166, Tryz.ntmps166
   go_wp2_with fail
   refine (small_any _ (bs.drop a) most 0 0 5 _ isub (by rw [List.length_drop]; omega) (by omega) (by omega) HS.out).mono ?_
   rintro E w1 ⟨rfl, rfl⟩
   go_wp2
   go_ret3
   exact ⟨_, 0, _, _, rfl, rfl, .inr ⟨rfl, rfl, rfl, HG.out⟩, fun h => by simp at h⟩

set_option maxHeartbeats 1000000 in
theorem oread_any (vb : Value) (bs : List Int) (w : World) (hb : Is .u8 w vb bs) (hl : bs.length ≤ 140737488355328) :
  Calls Tryz.prog 148 #[vb] w fun E w' => ∃ (p : Bool) (k v : ByteArray) (n e : Int), E = .returned (.tuple #[opv p k v, .int .i64 n, .int .i64 e]) ∧ Om.ORes bs p k.data.toList v.data.toList n e ∧ Below w.heap.size w w' := by
 unfold opv
 have bel0 : ∀ cs, Below w.heap.size w (w.alloc (.cells cs 65)) := fun cs => (Below.refl _ _).alloc (Nat.le_refl _) _
 by_cases h0 : 0 < bs.length
 ·have hbw := hb.byte 0
  obtain ⟨b1, o1, c1, rfl, hcap, hcm, hB1, hc1⟩ := hb.full h0
  have hb0 := hb.below (bel0 #[.bool false, .string ⟨#[]⟩, .string ⟨#[]⟩])
  have g0 := hc1 0 h0
  obtain ⟨q, rest, rfl⟩ : ∃ q rest, bs = q :: rest := by
   cases bs with
   | nil => simp at h0
   | cons q r => exact ⟨q, r, rfl⟩
  simp only [List.getD_cons_zero, Nat.add_zero] at g0 hbw
  have hlr : (q :: rest).length = rest.length + 1 := rfl
  by_cases hq : 1 < q
  ·have HG := hide (Om.ores_kind (b := q) (bs := rest) (by omega) (by omega))
   clear hc1 hb hb0
   go_enter Tryz.func148, Tryz.ntmps148
   go_wp2
   refine bodyPost_ret (v := .tuple #[.agg #[.bool false, .string ⟨#[]⟩, .string ⟨#[]⟩], .int .i64 0, .int .i64 5]) (by simp [results, Tryz.results148, go_sem]) rfl ?_
   exact ⟨_, _, _, _, _, rfl, HG.out, bel0 _⟩
  ·have HL := hide hlr
   clear hc1 hlr
   go_enter Tryz.func148, Tryz.ntmps148
   go_wp2_with fail
   refine (rcount_any _ (q :: rest) 1 16 _ hb0 hl h0 (by omega) (by omega)).mono ?_
   rintro E w1 ⟨s, n, d, e, rfl, rfl, hR, hd⟩
   rw [List.drop_one, List.tail_cons] at hR
   have ZERO : ∀ w', Below w.heap.size w w' → Om.ORes (q :: rest) false [] [] 0 5 → ∃ (p : Bool) (k v : ByteArray) (n e : Int), Ending.returned (.tuple #[.agg #[.bool false, .string ⟨#[]⟩, .string ⟨#[]⟩], .int .i64 0, .int .i64 5]) = .returned (.tuple #[.agg #[.bool p, .string k, .string v], .int .i64 n, .int .i64 e]) ∧ Om.ORes (q :: rest) p k.data.toList v.data.toList n e ∧ Below w.heap.size w w' := fun w' hb' h => ⟨_, _, _, _, _, rfl, h, hb'⟩
   have HZ := hide ZERO
   clear ZERO
   have he : e = 0 ∨ e = 5 := by
    rcases hR with ⟨h, _⟩ | ⟨h, _⟩
    ·exact .inl h
    ·exact .inr h
   rcases he with rfl | rfl
   ·obtain ⟨hd1, hd2⟩ := hd rfl
    subst hd1
    clear hd
    rw [HL.out] at hd2
    by_cases hs : s.data.toList = []
    ·have HG := hide (Om.ores_key (b := q) hR (.inr hs))
     have hs' : s.toList.isEmpty = true := by rw [Lib.toList_data, hs]; rfl
     clear hR hs
     go_wp2
     refine bodyPost_ret (v := .tuple #[.agg #[.bool false, .string ⟨#[]⟩, .string ⟨#[]⟩], .int .i64 0, .int .i64 5]) (by simp [results, Tryz.results148, go_sem]) rfl ?_
     exact HZ.out _ (bel0 _) HG.out
    ·have hs' : s.toList.isEmpty = false := by rw [Lib.toList_data]; simpa using hs
     rcases (show q = 0 ∨ q = 1 by omega) with rfl | rfl
     ·have HG := hide (Om.ores_del hR hs)
      clear hR hs HZ
      go_wp2
      refine bodyPost_ret (v := .tuple #[.agg #[.bool false, .string s, .string ⟨#[]⟩], .int .i64 ((1 + n : Nat) : Int), .int .i64 0]) (by simp [results, Tryz.results148, go_sem]) rfl ?_
      exact ⟨_, _, _, _, _, rfl, HG.out, bel0 _⟩
     ·have HR := hide hR
      have HS := hide hs
      clear hR hs
      go_wp2_with fail
      refine (rcount_any _ (1 :: rest) (1 + n) 32 _ hb0 hl h0 (by simp; omega) (by omega)).mono ?_
      rintro E w1 ⟨t, m, d, e, rfl, rfl, hT, hd⟩
      rw [Nat.add_comm 1 n, List.drop_succ_cons] at hT
      have he : e = 0 ∨ e = 5 := by
       rcases hT with ⟨h, _⟩ | ⟨h, _⟩
       ·exact .inl h
       ·exact .inr h
      rcases he with rfl | rfl
      ·obtain ⟨hd1, hd2⟩ := hd rfl
       subst hd1
       clear hd
       have HG := hide (Om.ores_put HR.out HS.out hT)
       clear hT HZ
       go_wp2
       refine bodyPost_ret (v := .tuple #[.agg #[.bool true, .string s, .string t], .int .i64 ((1 + n + m : Nat) : Int), .int .i64 0]) (by simp [results, Tryz.results148, go_sem]) rfl ?_
       exact ⟨_, _, _, _, _, rfl, HG.out, bel0 _⟩
      ·have HG := hide (Om.ores_val HR.out hT (by simp))
       clear hT hd
       go_wp2
       refine bodyPost_ret (v := .tuple #[.agg #[.bool false, .string ⟨#[]⟩, .string ⟨#[]⟩], .int .i64 0, .int .i64 5]) (by simp [results, Tryz.results148, go_sem]) rfl ?_
       exact HZ.out _ (bel0 _) HG.out
   ·have HG := hide (Om.ores_key (b := q) hR (.inl (by simp)))
    clear hR hd
    go_wp2
    refine bodyPost_ret (v := .tuple #[.agg #[.bool false, .string ⟨#[]⟩, .string ⟨#[]⟩], .int .i64 0, .int .i64 5]) (by simp [results, Tryz.results148, go_sem]) rfl ?_
    exact HZ.out _ (bel0 _) HG.out
 ·have : bs = [] := List.eq_nil_of_length_eq_zero (by omega)
  subst this
  obtain ⟨ao, c, rfl⟩ := hb.bare
  clear hb hl h0
  go_enter Tryz.func148, Tryz.ntmps148
  go_wp2
  refine bodyPost_ret (v := .tuple #[.agg #[.bool false, .string ⟨#[]⟩, .string ⟨#[]⟩], .int .i64 0, .int .i64 5]) (by simp [results, Tryz.results148, go_sem]) rfl ?_
  exact ⟨_, _, _, _, _, rfl, Om.ores_nil, bel0 _⟩

end Go.Proofs.YtmmfakpphjjjfaaGreat

/- The contracts of run.read and run.Decode. -/
namespace Go.Proofs.YtmmfakpphjjjfaaGreat
open Go.RowKit
open Bm (Ov)
set_option linter.unusedVariables false

theorem Tryz.elemB3 : Tryz.prog.underlying 66 = some (.slice (Tryz.prog.elem 66)) := by kernel_rfl

theorem Tryz.sizeB3 (wx : World) : (sizeOf (Tryz.prog.elem 66)).run Tryz.prog wx = .ok 1 wx := by kernel_rfl

theorem put_at3 {V : World} {R : Nat} {t : TypeId} {cs : Array Value} (hR : V.heap[R]? = some (.cells cs t (0, 0))) (j : Nat) (u : Value) :
  ∃ V', V.setCell ⟨R, j, none⟩ u = V' ∧ V'.heap[R]? = some (.cells (cs.setIfInBounds j u) t (0, 0)) ∧ V.grownBy V' (some R) ∧ V.frozen? ⟨R, j, none⟩ = false :=
 ⟨_, rfl, set_cells hR j u, grown_setCell _ _ _, blk_froz hR j⟩

def Nr (bs : List Int) (x y m k a : Nat) : Prop := match k with
 | 0 => a = 0
 | 1 => Vm.enc x <+: bs ∧ a = Vm.sz x ∧ x ≤ 1048576
 | 2 => Vm.enc x <+: bs ∧ Vm.enc y <+: bs.drop (Vm.sz x) ∧ a = Vm.sz x + Vm.sz y ∧ x ≤ 1048576 ∧ y ≤ 1048576
 | _ => Vm.enc x <+: bs ∧ Vm.enc y <+: bs.drop (Vm.sz x) ∧ Vm.enc m <+: bs.drop (Vm.sz x + Vm.sz y) ∧ a = Vm.sz x + Vm.sz y + Vm.sz m ∧ x ≤ 1048576 ∧ y ≤ 1048576 ∧ m ≤ 1048576

theorem enc_in {bs : List Int} {x a : Nat} (h : Vm.enc x <+: bs.drop a) (ha : a ≤ bs.length) : a + Vm.sz x ≤ bs.length := by
 have := h.length_le
 rw [List.length_drop] at this
 have e : (Vm.enc x).length = Vm.sz x := rfl
 omega

theorem Nr.le {bs : List Int} {x y m k a : Nat} (h : Nr bs x y m k a) : a ≤ bs.length := by
 unfold Nr at h
 split at h
 ·omega
 ·have := h.1.length_le
  have e : (Vm.enc x).length = Vm.sz x := rfl
  omega
 ·obtain ⟨h1, h2, h3, _⟩ := h
  have := h1.length_le
  have e : (Vm.enc x).length = Vm.sz x := rfl
  have := enc_in h2 (by omega)
  omega
 ·obtain ⟨h1, h2, h3, h4, _⟩ := h
  have := h1.length_le
  have e : (Vm.enc x).length = Vm.sz x := rfl
  have := enc_in h2 (by omega)
  have := enc_in h3 (by omega)
  omega

def RdR (bs : List Int) (x y : Int) (l : List Ov) (a e : Int) : Prop :=
 (e = 5 ∧ x = 0 ∧ y = 0 ∧ l = [] ∧ a = 0 ∧ Rn.No bs) ∨
 (e = 0 ∧ ∃ X Y : Nat, x = X ∧ y = Y ∧ X ≤ 1048576 ∧ Y ≤ 1048576 ∧ l.length ≤ 1048576 ∧ Vm.enc X <+: bs ∧ Vm.enc Y <+: bs.drop (Vm.sz X) ∧ Vm.enc l.length <+: bs.drop (Vm.sz X + Vm.sz Y) ∧ Rn.ens l <+: bs.drop (Vm.sz X + Vm.sz Y + Vm.sz l.length) ∧ (∀ o ∈ l, o.c = 0) ∧ a = ((Vm.sz X + Vm.sz Y + Vm.sz l.length + (Rn.ens l).length : Nat) : Int))

structure RdO (bs : List Int) (w wr : World) (x y m a : Nat) (v : Value) (l : List Ov) : Prop where
 blk : wr.heap[w.heap.size]? = some (.cells #[.int .i64 x, .int .i64 y, v] 112 (0, 0))
 own : OwnO 65 (w.heap.size + 2) wr v l
 bel : Below w.heap.size w wr
 sz : w.heap.size + 2 ≤ wr.heap.size
 nr : Nr bs x y m 3 (Vm.sz x + Vm.sz y + Vm.sz m)
 ens : Rn.ens l <+: bs.drop (Vm.sz x + Vm.sz y + Vm.sz m)
 ok : ∀ o ∈ l, o.c = 0
 a : a = Vm.sz x + Vm.sz y + Vm.sz m + (Rn.ens l).length

theorem RdO.le {bs : List Int} {w wr : World} {x y m a : Nat} {v : Value} {l : List Ov} (h : RdO bs w wr x y m a v l) : a ≤ bs.length := by
 have h1 := h.nr.le
 have h2 := h.ens.length_le
 have h3 := h.a
 rw [List.length_drop] at h2
 omega

theorem RdO.bad {bs : List Int} {w wr : World} {x y m a : Nat} {v : Value} {l : List Ov} (h : RdO bs w wr x y m a v l) (hlt : l.length < m) {p : Bool} {k u : List UInt8} {n : Int} (hr : Om.ORes (bs.drop a) p k u n 5) : Rn.No bs := by
 obtain ⟨h1, h2, h3, _⟩ := h.nr
 refine Rn.no4 h1 h2 h3 h.ens h.ok hlt fun o ho hp => ?_
 rcases hr with ⟨h0, _⟩ | ⟨_, _, _, _, _, hn⟩
 ·cases h0
 ·rw [h.a] at hn
  exact hn o.p o.kl o.vl ho hp

theorem RdO.more {bs : List Int} {w wr : World} {x y m a : Nat} {v : Value} {l : List Ov} (h : RdO bs w wr x y m a v l) {o : Ov} {n : Int} (hr : Om.ORes (bs.drop a) o.p o.kl o.vl n 0) :
  o.c = 0 ∧ Rn.ens (l ++ [o]) <+: bs.drop (Vm.sz x + Vm.sz y + Vm.sz m) ∧ (∀ q ∈ l ++ [o], q.c = 0) ∧ ∃ j : Nat, n = (j : Int) ∧ a + j = Vm.sz x + Vm.sz y + Vm.sz m + (Rn.ens (l ++ [o])).length ∧ j ≤ 51 := by
 rcases hr with ⟨_, h1, h2, h3⟩ | ⟨h0, _⟩
 ·refine ⟨h1, ?_, fun q hq => ?_, (Om.opEnc o.p o.kl o.vl).length, h3, ?_, Om.opEnc_le h1⟩
  ·rw [Rn.ens_snoc, Bm.pre_app, List.drop_drop, ← h.a]
   exact ⟨h.ens, h2⟩
  ·rcases List.mem_append.1 hq with hq | hq
   ·exact h.ok q hq
   ·rw [List.mem_singleton.1 hq]; exact h1
  ·rw [Rn.ens_snoc, List.length_append, h.a]
   omega
 ·cases h0

theorem RdO.fin {bs : List Int} {w wr : World} {x y m a : Nat} {v : Value} {l : List Ov} (h : RdO bs w wr x y m a v l) (hm : l.length = m) : RdR bs x y l a 0 := by
 have hn := h.nr
 have he := h.ens
 have ha := h.a
 subst hm
 obtain ⟨h1, h2, h3, _, h5, h6, h7⟩ := hn
 exact .inr ⟨rfl, x, y, rfl, rfl, h5, h6, h7, h1, h2, h3, he, h.ok, by rw [ha]⟩

set_option maxRecDepth 20000 in
set_option maxHeartbeats 4000000 in
theorem hread_any (vb : Value) (bs : List Int) (w : World) (hb : Is .u8 w vb bs) (hl : bs.length ≤ 140737488355328) :
  Calls Tryz.prog 110 #[vb] w fun E w' => ∃ (x y a e : Int) (v : Value) (l : List Ov), E = .returned (.tuple #[cmv x y v, .int .i64 a, .int .i64 e]) ∧ OwnO 65 w.heap.size w' v l ∧ Hid (RdR bs x y l a e) ∧ Below w.heap.size w w' := by
 unfold cmv
 obtain ⟨w1, hw1, sz1, bel1, hR1⟩ := blk_step w #[.int .i64 0, .int .i64 0, .slice none 0 0] 112
 obtain ⟨w2, hw2, sz2, bel2, hN2⟩ := blk_step w1 #[.int .i64 0, .int .i64 0, .int .i64 0] 179
 have hR2 := (bel2.block _ (blk_lt hR1)).trans hR1
 rw [sz1] at hN2
 have bel02 := bel1.trans (bel2.mono (by omega))
 have HBS := hide hb
 obtain ⟨ao, cap, hvb, _, _⟩ := hb.shape
 have D0 : Hid (w2.heap[w.heap.size]? = some (.cells #[.int .i64 0, .int .i64 0, .slice none 0 0] 112 (0, 0)) ∧ w2.heap[w.heap.size + 1]? = some (.cells #[.int .i64 (0 : Nat), .int .i64 (0 : Nat), .int .i64 (0 : Nat)] 179 (0, 0)) ∧ Below w.heap.size w w2 ∧ Nr bs 0 0 0 0 0) := hide ⟨hR2, hN2, bel02, rfl⟩
 subst hvb
 clear hR1 hR2 hN2 bel1 bel2 hb bel02
 go_enter Tryz.func110, Tryz.ntmps110
 go_wp2
 go_loopw [3, 13] (fun aa kk wr => ∃ (k a x y m : Nat), k ≤ 3 ∧ kk = .int .i64 k ∧ aa = .int .i64 a ∧ Hid (wr.heap[w.heap.size]? = some (.cells #[.int .i64 0, .int .i64 0, .slice none 0 0] 112 (0, 0)) ∧ wr.heap[w.heap.size + 1]? = some (.cells #[.int .i64 x, .int .i64 y, .int .i64 m] 179 (0, 0)) ∧ Below w.heap.size w wr ∧ Nr bs x y m k a)) (fun _ kk _ => 4 - (intOf kk).toNat)
 case atStart => exact ⟨0, 0, 0, 0, 0, by omega, rfl, rfl, D0⟩
 case round =>
  clear D0
  obtain ⟨k, a, x, y, m, hk, rfl, rfl, D⟩ := hrel
  obtain ⟨B0, B1, belr, hn⟩ := D.out
  have szr := belr.size
  have hal := hn.le
  have lt0 := blk_lt B0
  have lt1 := blk_lt B1
  by_cases hk3 : k < 3
  ·obtain ⟨vs, hsl, isl⟩ := (HBS.out.below belr).slice_l Tryz.elemB3 Tryz.sizeB3 a hal
   obtain ⟨u, i, g, hS⟩ := sres_is (bs.drop a) ((1048576 : Nat) : Int)
   have HS := hide hS
   have ST := hide (sres_step (most := 1048576) (by omega) hS)
   have hdl : (bs.drop a).length = bs.length - a := by rw [List.length_drop]
   have HN := hide hn
   have HK := hide hk3
   have hk3' : (k : Int) < 3 := by omega
   have hsm : Hid (∀ W, Is .u8 W vs (bs.drop a) → Calls Tryz.prog 109 #[vs, .int .i64 1048576] W fun E w' => E = .returned (.tuple #[.int .i64 u, .int .i64 i, .int .i64 g]) ∧ W = w') := hide fun W hW => small_any vs (bs.drop a) 1048576 u i g W hW (by omega) (by omega) (by omega) HS.out
   clear hS hn hk3 HS
   go_wp2_with fail
   refine (hsm.out _ isl).mono ?_
   rintro E w4 ⟨rfl, rfl⟩
   clear isl hsl hsm
   rcases ST.out with ⟨z, rfl, rfl, rfl, hz, hp⟩ | ⟨rfl, rfl, rfl, hno⟩
   ·have hs10 := Vm.sz_le10 (x := z) (by omega)
    have hwr := wrap_i64_small ((a : Int) + (Vm.sz z : Int)) (by omega) (by omega)
    rcases (show k = 0 ∨ k = 1 ∨ k = 2 by have := HK.out; omega) with rfl | rfl | rfl
    ·obtain ⟨V, hV, bV, gV, fz⟩ := put_at3 B1 0 (.int .i64 z)
     have cz := blk_cell B1 0 rfl
     have DN : Hid (V.heap[w.heap.size]? = some (.cells #[.int .i64 0, .int .i64 0, .slice none 0 0] 112 (0, 0)) ∧ V.heap[w.heap.size + 1]? = some (.cells #[.int .i64 z, .int .i64 y, .int .i64 m] 179 (0, 0)) ∧ Below w.heap.size w V ∧ Nr bs z y m 1 (a + Vm.sz z)) :=
      hide ⟨(gV.block _ lt0 (by simp)).trans B0, bV, below_put belr gV (by omega) belr.size, by
       have h0 : a = 0 := HN.out
       subst h0
       rw [List.drop_zero] at hp
       exact ⟨hp, by omega, hz⟩⟩
     clear B0 B1 bV gV hp D ST HN HK
     go_wp2
     go_roundw
     case rel => exact ⟨1, a + Vm.sz z, z, y, m, by omega, rfl, by go_num, DN⟩
     case measure => simp [intOf]
    ·obtain ⟨V, hV, bV, gV, fz⟩ := put_at3 B1 1 (.int .i64 z)
     have cz := blk_cell B1 1 rfl
     have DN : Hid (V.heap[w.heap.size]? = some (.cells #[.int .i64 0, .int .i64 0, .slice none 0 0] 112 (0, 0)) ∧ V.heap[w.heap.size + 1]? = some (.cells #[.int .i64 x, .int .i64 z, .int .i64 m] 179 (0, 0)) ∧ Below w.heap.size w V ∧ Nr bs x z m 2 (a + Vm.sz z)) :=
      hide ⟨(gV.block _ lt0 (by simp)).trans B0, bV, below_put belr gV (by omega) belr.size, by
       obtain ⟨h1, h2, h3⟩ := HN.out
       subst h2
       exact ⟨h1, hp, rfl, h3, hz⟩⟩
     clear B0 B1 bV gV hp D ST HN HK
     go_wp2
     go_roundw
     case rel => exact ⟨2, a + Vm.sz z, x, z, m, by omega, rfl, by go_num, DN⟩
     case measure => simp [intOf]
    ·obtain ⟨V, hV, bV, gV, fz⟩ := put_at3 B1 2 (.int .i64 z)
     have cz := blk_cell B1 2 rfl
     have DN : Hid (V.heap[w.heap.size]? = some (.cells #[.int .i64 0, .int .i64 0, .slice none 0 0] 112 (0, 0)) ∧ V.heap[w.heap.size + 1]? = some (.cells #[.int .i64 x, .int .i64 y, .int .i64 z] 179 (0, 0)) ∧ Below w.heap.size w V ∧ Nr bs x y z 3 (a + Vm.sz z)) :=
      hide ⟨(gV.block _ lt0 (by simp)).trans B0, bV, below_put belr gV (by omega) belr.size, by
       obtain ⟨h1, h2, h3, h4, h5⟩ := HN.out
       subst h3
       exact ⟨h1, h2, hp, rfl, h4, h5, hz⟩⟩
     clear B0 B1 bV gV hp D ST HN HK
     go_wp2
     go_roundw
     case rel => exact ⟨3, a + Vm.sz z, x, y, z, by omega, rfl, by go_num, DN⟩
     case measure => simp [intOf]
   ·have HNO : Hid (Rn.No bs) := hide (by
     have h0 := HN.out
     rcases (show k = 0 ∨ k = 1 ∨ k = 2 by have := HK.out; omega) with rfl | rfl | rfl
     ·have ha : a = 0 := h0
      subst ha
      exact Rn.no1 (by simpa using hno)
     ·obtain ⟨h1, h2, h3⟩ := h0
      subst h2
      exact Rn.no2 h1 hno
     ·obtain ⟨h1, h2, h3, h4, h5⟩ := h0
      subst h3
      exact Rn.no3 h1 h2 (by omega) hno)
    obtain ⟨z0, z1, z2⟩ : wr.cell? ⟨w.heap.size, 0, none⟩ = some (.int .i64 0) ∧ wr.cell? ⟨w.heap.size, 1, none⟩ = some (.int .i64 0) ∧ wr.cell? ⟨w.heap.size, 2, none⟩ = some (.slice none 0 0) := ⟨blk_cell B0 0 rfl, blk_cell B0 1 rfl, blk_cell B0 2 rfl⟩
    have s0 : wr.setCell ⟨w.heap.size, 0, none⟩ (.int .i64 0) = wr := set_same B0 (j := 0) rfl
    have s1 : wr.setCell ⟨w.heap.size, 1, none⟩ (.int .i64 0) = wr := set_same B0 (j := 1) rfl
    have s2 : wr.setCell ⟨w.heap.size, 2, none⟩ (.slice none 0 0) = wr := set_same B0 (j := 2) rfl
    have f0 := blk_froz B0 0; have f1 := blk_froz B0 1; have f2 := blk_froz B0 2
    clear B0 B1 hno D ST HN HK
    go_wp2
    refine bodyPost_ret (v := .tuple #[.agg #[.int .i64 0, .int .i64 0, .slice none 0 0], .int .i64 0, .int .i64 5]) (by simp [results, Tryz.results110, go_sem, z0, z1, z2]) rfl ?_
    exact ⟨0, 0, 0, 5, _, [], rfl, OwnO.nil _ _ _, hide (.inl ⟨rfl, rfl, rfl, rfl, rfl, HNO.out⟩), belr⟩
  ·obtain rfl : k = 3 := by omega
   obtain ⟨q0, q1, q2⟩ : wr.cell? ⟨w.heap.size + 1, 0, none⟩ = some (.int .i64 x) ∧ wr.cell? ⟨w.heap.size + 1, 1, none⟩ = some (.int .i64 y) ∧ wr.cell? ⟨w.heap.size + 1, 2, none⟩ = some (.int .i64 m) := ⟨blk_cell B1 0 rfl, blk_cell B1 1 rfl, blk_cell B1 2 rfl⟩
   have f0 := blk_froz B0 0; have f1 := blk_froz B0 1
   have z0 := blk_cell B0 0 rfl; have z1 := blk_cell B0 1 rfl
   simp only [List.getElem_toArray, List.getElem_cons_zero, List.getElem_cons_succ] at z0 z1
   obtain ⟨V, hV, RO, v2⟩ : ∃ V, ((wr.setCell ⟨w.heap.size, 0, none⟩ (.int .i64 x)).setCell ⟨w.heap.size, 1, none⟩ (.int .i64 y)).drew = V ∧ RdO bs w V x y m a (.slice none 0 0) [] ∧ V.cell? ⟨w.heap.size + 1, 2, none⟩ = some (.int .i64 m) := by
    have g2 : wr.grownBy ((wr.setCell ⟨w.heap.size, 0, none⟩ (.int .i64 x)).setCell ⟨w.heap.size, 1, none⟩ (.int .i64 y)) (some w.heap.size) := grown_trans (grown_setCell wr ⟨w.heap.size, 0, none⟩ (.int .i64 x)) (grown_setCell _ ⟨w.heap.size, 1, none⟩ (.int .i64 y))
    have ha : a = Vm.sz x + Vm.sz y + Vm.sz m := hn.2.2.2.1
    refine ⟨_, rfl, ⟨set_cells (set_cells B0 0 _) 1 _, OwnO.nil _ _ _, (below_put belr g2 (Nat.le_refl _) belr.size).drew, Nat.le_trans (show w.heap.size + 2 ≤ wr.heap.size by omega) g2.size, by rw [← ha]; exact hn, by simp [Rn.ens], by simp, by simp [Rn.ens]; exact ha⟩, ?_⟩
    exact blk_cell ((g2.block _ lt1 (by simp)).trans B1) 2 rfl
   have HRO := hide RO
   have hm20 : m ≤ 1048576 := hn.2.2.2.2.2.2
   clear B0 B1 D hn RO
   go_wp2
   go_region
   clear hV q0 q1 q2 f0 f1 z0 z1 belr szr lt0 lt1
   go_wp2
   go_loopw [3, 43] (fun aa kk ws => ∃ (k a : Nat) (v : Value) (l : List Ov), k ≤ m ∧ kk = .int .i64 k ∧ aa = .int .i64 a ∧ l.length = k ∧ Hid (RdO bs w ws x y m a v l)) (fun _ kk _ => m - (intOf kk).toNat)
   case atStart => exact ⟨0, a, _, [], by omega, rfl, rfl, rfl, HRO⟩
   case round =>
    clear HRO v2
    obtain ⟨k, a, v, l, hk, rfl, rfl, hlk, RO⟩ := hrel
    have hal := RO.out.le
    have szr := RO.out.sz
    obtain ⟨av, nv, kv, hvv⟩ : ∃ a n k, v = .slice a n k := by
     obtain ⟨a1, k1, h1, _⟩ := RO.out.own.is.shape
     exact ⟨a1, _, k1, h1⟩
    subst hvv
    by_cases hkm : k < m
    ·have hkm' : (k : Int) < m := by omega
     obtain ⟨vs, hsl, isl⟩ := (HBS.out.below RO.out.bel).slice_l Tryz.elemB3 Tryz.sizeB3 a hal
     have HRD := hide (oread_any vs (bs.drop a) wr isl (by rw [List.length_drop]; omega))
     have hdl : (bs.drop a).length = bs.length - a := by rw [List.length_drop]
     unfold opv at HRD
     clear isl
     go_wp2_with fail
     refine HRD.out.mono ?_
     rintro E w5 ⟨p, ky, vl, n, e, rfl, hor, bel5⟩
     have sz5 := bel5.size
     obtain ⟨w6, hw6, hw6', sz6, bel6, b6, x0, x1, x2⟩ := new_step w5 65 (.bool false) (.string ⟨#[]⟩) (.string ⟨#[]⟩) (.bool p) (.string ky) (.string vl)
     have bel56 := bel5.trans (bel6.mono sz5)
     have B6 := (bel56.block _ (blk_lt RO.out.blk)).trans RO.out.blk
     have own6 := RO.out.own.below bel56
     have bel06 := RO.out.bel.trans (bel56.mono RO.out.bel.size)
     have HOR := hide hor
     have he : e = 0 ∨ e = 5 := by
      rcases hor with ⟨h, _⟩ | ⟨h, _⟩
      ·exact .inl h
      ·exact .inr h
     clear hor bel5 bel6 HRD hsl
     rcases he with rfl | rfl
     ·obtain ⟨hoc, he1, he2, j, rfl, hj1, hj2⟩ := RO.out.more (o := ⟨p, ky, vl⟩) HOR.out
      have hwr := wrap_i64_small ((a : Int) + (j : Int)) (by omega) (by omega)
      have y2 := blk_cell B6 2 rfl
      have f2 := blk_froz B6 2
      simp only [List.getElem_toArray, List.getElem_cons_zero, List.getElem_cons_succ] at y2
      obtain ⟨w7, hw7, sz7, bel7, own7⟩ := ops_step 65 w6 #[.bool p, .string ky, .string vl] 1 [⟨p, ky, vl⟩] rfl rfl (by simp [maxLen])
      have own67 := own6.below bel7
      have is7 : IsO w7 (.slice (some ⟨w5.heap.size + 1, 0, none⟩) 1 1) [⟨p, ky, vl⟩] := by rw [← sz6]; exact own7.is
      have B7 := (bel7.block _ (blk_lt B6)).trans B6
      have hz7 : w.heap.size + 2 ≤ w7.heap.size := by omega
      have hlen : (l.length + [(⟨p, ky, vl⟩ : Ov)].length) * 40 ≤ 140737488355328 := by simp; omega
      have HOK := hide (show Rn.ens (l ++ [⟨p, ky, vl⟩]) <+: bs.drop (Vm.sz x + Vm.sz y + Vm.sz m) ∧ (∀ q ∈ l ++ [(⟨p, ky, vl⟩ : Ov)], q.c = 0) ∧ a + j = Vm.sz x + Vm.sz y + Vm.sz m + (Rn.ens (l ++ [⟨p, ky, vl⟩])).length from ⟨he1, he2, hj1⟩)
      have HB7 := hide (show w7.heap[w.heap.size]? = some (.cells #[.int .i64 x, .int .i64 y, .slice av nv kv] 112 (0, 0)) ∧ Below w.heap.size w w7 from ⟨B7, bel06.trans (bel7.mono bel06.size)⟩)
      have c0 := blk_cell B7 2 rfl
      have g0 := blk_froz B7 2
      clear own7 own6 B6 B7 b6 bel7 bel06 he1 he2 hj1 HOR
      go_wp2_with (at_builtin; refine wpList_append_ops rfl (.tmp 58) (.tmp 60) 48 rfl 65 (w.heap.size + 2) Tryz.underlying48 Tryz.info65 _ l rfl own67 _ [⟨p, ky, vl⟩] rfl is7 hlen hz7 ?_)
      rintro v8 w8 own8 bel8 gr8
      obtain ⟨a8, n8, k8, hv8⟩ : ∃ a n k, v8 = .slice a n k := by
       obtain ⟨a1, k1, h1, _⟩ := own8.is.shape
       exact ⟨a1, _, k1, h1⟩
      subst hv8
      have B8 := (bel8.block w.heap.size (by omega)).trans HB7.out.1
      have bel08 := HB7.out.2.trans (bel8.mono (by omega))
      have hz8 := bel8.size
      obtain ⟨V, hV, bV, gV, fz⟩ := put_at3 B8 2 (.slice a8 n8 k8)
      have cz := blk_cell B8 2 rfl
      simp only [List.getElem_toArray, List.getElem_cons_zero, List.getElem_cons_succ] at cz
      have RN : Hid (RdO bs w V x y m (a + j) (.slice a8 n8 k8) (l ++ [⟨p, ky, vl⟩])) := hide ⟨bV, own8.kept gV (by
        cases hq : (Value.slice a8 n8 k8).ownBlock with
        | none => exact .inl rfl
        | some b => exact .inr (by have := (own8.block b hq).1; simp; omega)), below_put bel08 gV (Nat.le_refl _) bel08.size, by have := gV.size; omega, RO.out.nr, HOK.out.1, HOK.out.2.1, HOK.out.2.2⟩
      clear own8 own67 is7 B8 bV gV bel8 bel08 gr8 HB7 HOK RO x0 x1 x2 c0 g0 y2 f2
      go_wp2
      go_roundw
      case rel =>
       iterate 29 apply Exists.intro
       refine And.intro ?_ rfl
       exact ⟨k + 1, a + j, _, _, by omega, by go_num, by go_num, by simp [hlk], RN⟩
      case measure => simp [intOf]; omega
     ·have HNO : Hid (Rn.No bs) := hide (RO.out.bad (by omega) HOR.out)
      obtain ⟨V, hV, bV, gV, ⟨z0, z1, z2⟩, ⟨f0, f1, f2⟩, ⟨t0, t1, t2⟩⟩ := res_step B6 (.int .i64 0) (.int .i64 0) (.slice none 0 0)
      have belV : Below w.heap.size w V := below_put bel06 gV (Nat.le_refl _) bel06.size
      clear B6 bV gV own6 bel06 bel56 HOR RO b6
      go_wp2
      refine bodyPost_ret (v := .tuple #[.agg #[.int .i64 0, .int .i64 0, .slice none 0 0], .int .i64 0, .int .i64 5]) (by simp [results, Tryz.results110, go_sem, t0, t1, t2]) rfl ?_
      exact ⟨0, 0, 0, 5, _, [], rfl, OwnO.nil _ _ _, hide (.inl ⟨rfl, rfl, rfl, rfl, rfl, HNO.out⟩), belV⟩
    ·have hkm' : ¬ (k : Int) < m := by omega
     have HF := hide (RO.out.fin (by omega))
     have B0 := RO.out.blk
     obtain ⟨z0, z1, z2⟩ : wr.cell? ⟨w.heap.size, 0, none⟩ = some (.int .i64 x) ∧ wr.cell? ⟨w.heap.size, 1, none⟩ = some (.int .i64 y) ∧ wr.cell? ⟨w.heap.size, 2, none⟩ = some (.slice av nv kv) := ⟨blk_cell B0 0 rfl, blk_cell B0 1 rfl, blk_cell B0 2 rfl⟩
     have s0 : wr.setCell ⟨w.heap.size, 0, none⟩ (.int .i64 x) = wr := set_same B0 (j := 0) rfl
     have s1 : wr.setCell ⟨w.heap.size, 1, none⟩ (.int .i64 y) = wr := set_same B0 (j := 1) rfl
     have s2 : wr.setCell ⟨w.heap.size, 2, none⟩ (.slice av nv kv) = wr := set_same B0 (j := 2) rfl
     have f0 := blk_froz B0 0; have f1 := blk_froz B0 1; have f2 := blk_froz B0 2
     have OW := hide (RO.out.own.rebase (base' := w.heap.size) (by omega))
     have BE := hide RO.out.bel
     clear B0 RO
     go_wp2
     refine bodyPost_ret (v := .tuple #[.agg #[.int .i64 x, .int .i64 y, .slice av nv kv], .int .i64 a, .int .i64 0]) (by simp [results, Tryz.results110, go_sem, z0, z1, z2]) rfl ?_
     first | exact ⟨x, y, a, 0, _, l, rfl, OW.out, HF, BE.out⟩ | exact ⟨x, y, a, 0, _, rfl, l, OW.out, HF, BE.out⟩

end Go.Proofs.YtmmfakpphjjjfaaGreat
