/- The walk of RoleRound. -/
import Derived.Test.YthndeolibilnnaaDoorRof
import Derived.Test.YthndeolibilnnaaDoorWrp
import Derived.Deep.RegionHeld3
import Derived.Deep.CutRange
namespace Go.Proofs.YthndeolibilnnaaDoor
open Go.RowKit
set_option linter.unusedVariables false

theorem pk_1000 (a : Int) : 0 ≤ pk a 1000 ∧ pk a 1000 < 1000 := by
  unfold pk
  have h1 := Int.tmod_lt_of_pos a (show (0 : Int) < 1000 by omega)
  have h2 := Int.lt_tmod_of_pos a (show (0 : Int) < 1000 by omega)
  split <;> omega

set_option maxRecDepth 20000 in
set_option maxHeartbeats 16000000 in
theorem roleRound_walk (ne nm nf nb nd : Int) (w : World) (h1 : (Lit.int .i64 ne).wf = true) (h2 : (Lit.int .i64 nm).wf = true) (h3 : (Lit.int .i64 nf).wf = true) (h4 : (Lit.int .i64 nb).wf = true) (h5 : (Lit.int .i64 nd).wf = true) (hm : Mst w) :
    Calls Tryd.prog 6 #[.int .i64 ne, .int .i64 nm, .int .i64 nf, .int .i64 nb, .int .i64 nd] w fun e w' => e = .returned (.bool true) ∧ Below w.heap.size w w' := by
  have HM := hide hm
  have PKE := hide (fun W => pickx_any ne 1000 W (by omega) (by omega) (i64_of h1))
  have pkE := pk_1000 ne
  obtain ⟨E, hE⟩ : ∃ z, pk ne 1000 = z := ⟨_, rfl⟩
  rw [hE] at PKE pkE
  have PKM := hide (fun W => pickx_any nm 1000 W (by omega) (by omega) (i64_of h2))
  have pkM := pk_1000 nm
  obtain ⟨M, hM⟩ : ∃ z, pk nm 1000 = z := ⟨_, rfl⟩
  rw [hM] at PKM pkM
  have PKF := hide (fun W => pickx_any nf 1000 W (by omega) (by omega) (i64_of h3))
  have pkF := pk_1000 nf
  obtain ⟨F, hF⟩ : ∃ z, pk nf 1000 = z := ⟨_, rfl⟩
  rw [hF] at PKF pkF
  have PKB := hide (fun W => pickx_any nb 1000 W (by omega) (by omega) (i64_of h4))
  have pkB := pk_1000 nb
  obtain ⟨Bs, hBs⟩ : ∃ z, pk nb 1000 = z := ⟨_, rfl⟩
  rw [hBs] at PKB pkB
  have PKA := hide (fun W => pickx_any nd 1000 W (by omega) (by omega) (i64_of h5))
  have pkA := pk_1000 nd
  obtain ⟨A, hA⟩ : ∃ z, pk nd 1000 = z := ⟨_, rfl⟩
  rw [hA] at PKA pkA
  obtain ⟨x, hx⟩ : ∃ y : Pm.Pg, y = ⟨1 + E, 1, A, 0, 0, 0⟩ := ⟨_, rfl⟩
  have hxe : x.e = 1 + E := by rw [hx]
  obtain ⟨q, hq⟩ : ∃ y : Pm.Pg, y = ⟨x.e + 1 + M, 3, 0, 1, 0, 0⟩ := ⟨_, rfl⟩
  have hqe : q.e = x.e + 1 + M := by rw [hq]
  obtain ⟨r, hr⟩ : ∃ y : Pm.Pg, y = ⟨q.e, 3, 0, 2, F, Bs⟩ := ⟨_, rfl⟩
  obtain ⟨s, hs⟩ : ∃ y : Pm.Pg, y = ⟨q.e, 3, 0, 3, F, Bs⟩ := ⟨_, rfl⟩
  obtain ⟨t, ht⟩ : ∃ y : Pm.Pg, y = ⟨q.e, 3, 0, 4, F, Bs⟩ := ⟨_, rfl⟩
  obtain ⟨u, hu⟩ : ∃ y : Pm.Pg, y = ⟨q.e, 2, 0, 0, 0, 0⟩ := ⟨_, rfl⟩
  obtain ⟨v, hv⟩ : ∃ y : Pm.Pg, y = ⟨q.e + 1, 1, F, 0, 0, 0⟩ := ⟨_, rfl⟩
  obtain ⟨z, hz⟩ : ∃ y : Pm.Pg, y = ⟨0, 0, 0, 0, 0, 0⟩ := ⟨_, rfl⟩
  have okx : Pm.Ok x := by rw [hx]; exact ok_prim (by omega) (by omega) (by omega) (by omega)
  have okq : Pm.Ok q := by rw [hq]; exact ok_hear (by omega) (by omega)
  have okr : Pm.Ok r := by rw [hr]; exact ok_dep (by omega) (by omega) (by omega) (by omega) (by omega) (by omega) (by omega) (by omega)
  have oks : Pm.Ok s := by rw [hs]; exact ok_dep (by omega) (by omega) (by omega) (by omega) (by omega) (by omega) (by omega) (by omega)
  have okt : Pm.Ok t := by rw [ht]; exact ok_dep (by omega) (by omega) (by omega) (by omega) (by omega) (by omega) (by omega) (by omega)
  have oku : Pm.Ok u := by rw [hu]; exact ok_repl (by omega) (by omega)
  have okv : Pm.Ok v := by rw [hv]; exact ok_prim (by omega) (by omega) (by omega) (by omega)
  obtain ⟨n1, hn1⟩ : ∃ n, x.e + 1 + M = n := ⟨_, rfl⟩
  have C1 : Hid (∀ W, Mst W → Calls Tryd.prog 13 #[.agg #[.int .i64 x.e, .int .u8 x.r, .int .i64 x.a, .int .u8 x.p, .int .i64 x.f, .int .i64 x.b], .int .i64 n1] W fun E w' => E = .returned (.tuple #[.agg #[.int .i64 q.e, .int .u8 q.r, .int .i64 q.a, .int .u8 q.p, .int .i64 q.f, .int .i64 q.b], .bool true, .int .i64 0]) ∧ Below W.heap.size W w') := hide fun W hm => by
    have := phear_any x n1 W (fit_ok okx) hm ⟨by omega, by omega⟩
    obtain ⟨k1, k2, k3⟩ := he_is (x := x) (n := n1) okx (by omega) (by omega)
    rw [k1, k2, k3, show (⟨n1, 3, 0, 1, 0, 0⟩ : Pm.Pg) = q by rw [hq, hn1]] at this
    exact this
  have C2 : Hid (∀ W, Mst W → Calls Tryd.prog 8 #[.agg #[.int .i64 q.e, .int .u8 q.r, .int .i64 q.a, .int .u8 q.p, .int .i64 q.f, .int .i64 q.b]] W fun E w' => E = .returned (.tuple #[.agg #[.int .i64 z.e, .int .u8 z.r, .int .i64 z.a, .int .u8 z.p, .int .i64 z.f, .int .i64 z.b], .int .i64 15]) ∧ Below W.heap.size W w') := hide fun W hm => by
    have := pfile_any q W (fit_ok okq) hm
    obtain ⟨k1, k2⟩ := nx_no (p := 2) 3 okq (by rw [hq]; simp)
    rw [k1, k2, ← show z = Pm.no from hz] at this
    exact this
  have C3 : Hid (∀ W, Mst W → Calls Tryd.prog 10 #[.agg #[.int .i64 q.e, .int .u8 q.r, .int .i64 q.a, .int .u8 q.p, .int .i64 q.f, .int .i64 q.b]] W fun E w' => E = .returned (.tuple #[.agg #[.int .i64 z.e, .int .u8 z.r, .int .i64 z.a, .int .u8 z.p, .int .i64 z.f, .int .i64 z.b], .int .i64 15]) ∧ Below W.heap.size W w') := hide fun W hm => by
    have := pcut_any q W (fit_ok okq) hm
    obtain ⟨k1, k2⟩ := nx_no (p := 3) 4 okq (by rw [hq]; simp)
    rw [k1, k2, ← show z = Pm.no from hz] at this
    exact this
  have C4 : Hid (∀ W, Mst W → Calls Tryd.prog 11 #[.agg #[.int .i64 q.e, .int .u8 q.r, .int .i64 q.a, .int .u8 q.p, .int .i64 q.f, .int .i64 q.b]] W fun E w' => E = .returned (.tuple #[.agg #[.int .i64 z.e, .int .u8 z.r, .int .i64 z.a, .int .u8 z.p, .int .i64 z.f, .int .i64 z.b], .int .i64 15]) ∧ Below W.heap.size W w') := hide fun W hm => by
    have := prejoin_any q W (fit_ok okq) hm
    obtain ⟨k1, k2⟩ := rj_no okq (by rw [hq]; simp)
    rw [k1, k2, ← show z = Pm.no from hz] at this
    exact this
  have C5 : Hid (∀ W, Mst W → Calls Tryd.prog 7 #[.agg #[.int .i64 q.e, .int .u8 q.r, .int .i64 q.a, .int .u8 q.p, .int .i64 q.f, .int .i64 q.b], .int .i64 0] W fun E w' => E = .returned (.tuple #[.agg #[.int .i64 z.e, .int .u8 z.r, .int .i64 z.a, .int .u8 z.p, .int .i64 z.f, .int .i64 z.b], .int .i64 9]) ∧ Below W.heap.size W w') := hide fun W hm => by
    have := pprom_any q 0 W (fit_ok okq) hm ⟨by omega, by omega⟩
    obtain ⟨k1, k2⟩ := pr_err (x := q) (n := 0) okq (by omega) (by omega) (by rw [hq]; simp)
    rw [k1, k2, if_neg (by rw [hq]; simp), ← show z = Pm.no from hz] at this
    exact this
  have C6 : Hid (∀ W, Mst W → Calls Tryd.prog 9 #[.agg #[.int .i64 q.e, .int .u8 q.r, .int .i64 q.a, .int .u8 q.p, .int .i64 q.f, .int .i64 q.b], .int .i64 F, .int .i64 Bs] W fun E w' => E = .returned (.tuple #[.agg #[.int .i64 r.e, .int .u8 r.r, .int .i64 r.a, .int .u8 r.p, .int .i64 r.f, .int .i64 r.b], .int .i64 0]) ∧ Below W.heap.size W w') := hide fun W hm => by
    have := pfork_any q F Bs W (fit_ok okq) hm ⟨by omega, by omega⟩ ⟨by omega, by omega⟩
    obtain ⟨k1, k2⟩ := fk_yes (x := q) (n := F) (k := Bs) okq (by omega) (by omega) (by omega) (by omega) (by rw [hq])
    rw [k1, k2, show (⟨q.e, q.r, q.a, 2, F, Bs⟩ : Pm.Pg) = r by rw [hr, hq]] at this
    exact this
  have C7 : Hid (∀ W, Mst W → Calls Tryd.prog 8 #[.agg #[.int .i64 r.e, .int .u8 r.r, .int .i64 r.a, .int .u8 r.p, .int .i64 r.f, .int .i64 r.b]] W fun E w' => E = .returned (.tuple #[.agg #[.int .i64 s.e, .int .u8 s.r, .int .i64 s.a, .int .u8 s.p, .int .i64 s.f, .int .i64 s.b], .int .i64 0]) ∧ Below W.heap.size W w') := hide fun W hm => by
    have := pfile_any r W (fit_ok okr) hm
    obtain ⟨k1, k2⟩ := nx_yes (p := 2) 3 okr (by rw [hr])
    rw [k1, k2, show (⟨r.e, r.r, r.a, 3, r.f, r.b⟩ : Pm.Pg) = s by rw [hr, hs]] at this
    exact this
  have C8 : Hid (∀ W, Mst W → Calls Tryd.prog 10 #[.agg #[.int .i64 s.e, .int .u8 s.r, .int .i64 s.a, .int .u8 s.p, .int .i64 s.f, .int .i64 s.b]] W fun E w' => E = .returned (.tuple #[.agg #[.int .i64 t.e, .int .u8 t.r, .int .i64 t.a, .int .u8 t.p, .int .i64 t.f, .int .i64 t.b], .int .i64 0]) ∧ Below W.heap.size W w') := hide fun W hm => by
    have := pcut_any s W (fit_ok oks) hm
    obtain ⟨k1, k2⟩ := nx_yes (p := 3) 4 oks (by rw [hs])
    rw [k1, k2, show (⟨s.e, s.r, s.a, 4, s.f, s.b⟩ : Pm.Pg) = t by rw [hs, ht]] at this
    exact this
  have C9 : Hid (∀ W, Mst W → Calls Tryd.prog 11 #[.agg #[.int .i64 t.e, .int .u8 t.r, .int .i64 t.a, .int .u8 t.p, .int .i64 t.f, .int .i64 t.b]] W fun E w' => E = .returned (.tuple #[.agg #[.int .i64 u.e, .int .u8 u.r, .int .i64 u.a, .int .u8 u.p, .int .i64 u.f, .int .i64 u.b], .int .i64 0]) ∧ Below W.heap.size W w') := hide fun W hm => by
    have := prejoin_any t W (fit_ok okt) hm
    obtain ⟨k1, k2⟩ := rj_yes okt (by rw [ht])
    rw [k1, k2, show (⟨t.e, 2, 0, 0, 0, 0⟩ : Pm.Pg) = u by rw [ht, hu]] at this
    exact this
  have C10 : Hid (∀ W, Mst W → Calls Tryd.prog 7 #[.agg #[.int .i64 u.e, .int .u8 u.r, .int .i64 u.a, .int .u8 u.p, .int .i64 u.f, .int .i64 u.b], .int .i64 F] W fun E w' => E = .returned (.tuple #[.agg #[.int .i64 v.e, .int .u8 v.r, .int .i64 v.a, .int .u8 v.p, .int .i64 v.f, .int .i64 v.b], .int .i64 0]) ∧ Below W.heap.size W w') := hide fun W hm => by
    have := pprom_any u F W (fit_ok oku) hm ⟨by omega, by omega⟩
    obtain ⟨k1, k2⟩ := pr_is (e := q.e) (n := F) (by omega) (by omega) (by omega) (by omega)
    rw [show Rol.prE u F = 0 by rw [hu]; exact k1, show Rol.pr u F = v by rw [hu, hv]; exact k2] at this
    exact this
  have R1 : Hid (∀ W, Mst W → Calls Tryd.prog 16 #[.agg #[.int .i64 q.e, .int .u8 q.r, .int .i64 q.a, .int .u8 q.p, .int .i64 q.f, .int .i64 q.b]] W fun E w' => E = .returned (.int .i64 9) ∧ Below W.heap.size W w') := hide fun W hm => by
    have := preads_any q W (fit_ok okq) hm
    rw [rd_is okq, if_pos (by rw [hq])] at this
    exact this
  have R2 : Hid (∀ W, Mst W → Calls Tryd.prog 15 #[.agg #[.int .i64 q.e, .int .u8 q.r, .int .i64 q.a, .int .u8 q.p, .int .i64 q.f, .int .i64 q.b]] W fun E w' => E = .returned (.int .i64 9) ∧ Below W.heap.size W w') := hide fun W hm => by
    have := pwrites_any q W (fit_ok okq) hm
    rw [wr_is okq, if_neg (by rw [hq]; simp), if_pos (by rw [hq])] at this
    exact this
  have R3 : Hid (∀ W, Mst W → Calls Tryd.prog 15 #[.agg #[.int .i64 u.e, .int .u8 u.r, .int .i64 u.a, .int .u8 u.p, .int .i64 u.f, .int .i64 u.b]] W fun E w' => E = .returned (.int .i64 11) ∧ Below W.heap.size W w') := hide fun W hm => by
    have := pwrites_any u W (fit_ok oku) hm
    rw [wr_is oku, if_pos (by rw [hu])] at this
    exact this
  have R4 : Hid (∀ W, Mst W → Calls Tryd.prog 16 #[.agg #[.int .i64 u.e, .int .u8 u.r, .int .i64 u.a, .int .u8 u.p, .int .i64 u.f, .int .i64 u.b]] W fun E w' => E = .returned (.int .i64 0) ∧ Below W.heap.size W w') := hide fun W hm => by
    have := preads_any u W (fit_ok oku) hm
    rw [rd_is oku, if_neg (by rw [hu]; simp)] at this
    exact this
  have R5 : Hid (∀ W, Mst W → Calls Tryd.prog 15 #[.agg #[.int .i64 v.e, .int .u8 v.r, .int .i64 v.a, .int .u8 v.p, .int .i64 v.f, .int .i64 v.b]] W fun E w' => E = .returned (.int .i64 0) ∧ Below W.heap.size W w') := hide fun W hm => by
    have := pwrites_any v W (fit_ok okv) hm
    rw [wr_is okv, if_neg (by rw [hv]; simp), if_neg (by rw [hv]; simp)] at this
    exact this
  have S1 : Hid (∀ W, Calls Tryd.prog 12 #[.agg #[.int .i64 u.e, .int .u8 u.r, .int .i64 u.a, .int .u8 u.p, .int .i64 u.f, .int .i64 u.b], .agg #[.int .i64 q.e, .int .u8 2, .int .i64 0, .int .u8 0, .int .i64 0, .int .i64 0]] W fun E w' => E = .returned (.bool true) ∧ Below W.heap.size W w') := hide fun W => by
    have := samePage_any u ⟨q.e, 2, 0, 0, 0, 0⟩ W
    rw [same_iff.2 hu] at this
    exact this
  have S2 : Hid (∀ W, Calls Tryd.prog 12 #[.agg #[.int .i64 v.e, .int .u8 v.r, .int .i64 v.a, .int .u8 v.p, .int .i64 v.f, .int .i64 v.b], .agg #[.int .i64 (q.e + 1), .int .u8 1, .int .i64 F, .int .u8 0, .int .i64 0, .int .i64 0]] W fun E w' => E = .returned (.bool true) ∧ Below W.heap.size W w') := hide fun W => by
    have := samePage_any v ⟨q.e + 1, 1, F, 0, 0, 0⟩ W
    rw [same_iff.2 hv] at this
    exact this
  have ALL : Hid (∀ i : Nat, i < 3 → ∃ y : Pm.Pg, (i = 0 → y = r) ∧ (i = 1 → y = s) ∧ (i = 2 → y = t) ∧ Pm.Ok y ∧ y.r = 3 ∧ y.e = q.e ∧ y.f = F ∧ y.b = Bs) := hide fun i hi => by
    rcases (show i = 0 ∨ i = 1 ∨ i = 2 by omega) with h | h | h
    · exact ⟨r, fun _ => rfl, fun k => by omega, fun k => by omega, okr, by rw [hr], by rw [hr], by rw [hr], by rw [hr]⟩
    · exact ⟨s, fun k => by omega, fun _ => rfl, fun k => by omega, oks, by rw [hs], by rw [hs], by rw [hs], by rw [hs]⟩
    · exact ⟨t, fun k => by omega, fun k => by omega, fun _ => rfl, okt, by rw [ht], by rw [ht], by rw [ht], by rw [ht]⟩
  have hwE : IntKind.i64.wrap (1 + E) = 1 + E := wrap_i64_small _ (by omega) (by omega)
  obtain ⟨n0, hn0⟩ : ∃ n, x.e + 1 = n := ⟨_, rfl⟩
  have hw0 : IntKind.i64.wrap (x.e + 1) = n0 := by rw [wrap_i64_small _ (by omega) (by omega)]; exact hn0
  have hw1 : IntKind.i64.wrap (n0 + M) = n1 := by rw [wrap_i64_small _ (by omega) (by omega)]; omega
  have hwq : IntKind.i64.wrap (q.e + 1) = q.e + 1 := wrap_i64_small _ (by omega) (by omega)
  have hle : ¬ q.e ≤ x.e := by omega
  have hq3 : (q.r != 3) = false := by rw [hq]; rfl
  have HXX := hide hx
  clear hm h1 h2 h3 h4 h5 hE hM hF hBs hA hx hq hr hs ht hu hv hz okx okq okr oks okt oku okv hxe hqe hn1 hn0 pkE pkM pkF pkB pkA
  go_enter Tryd.func6, Tryd.ntmps6
  go_wp2_with fail
  refine (lives20_any _ HM.out).mono ?_
  rintro E0 w1 ⟨rfl, b1⟩
  have B1 := hide b1
  clear b1
  go_wp2_with fail
  refine (PKE.out _).mono ?_
  rintro E0 w2 ⟨rfl, rfl⟩
  go_wp2_with fail
  refine (PKA.out _).mono ?_
  rintro E0 w2 ⟨rfl, rfl⟩
  obtain ⟨wx, hwx, swx, bwx, hqx⟩ := blk_step w1 #[.int .i64 (1 + E), .int .u8 1, .int .i64 A, .int .u8 0, .int .i64 0, .int .i64 0] 25
  obtain ⟨n0', n1', n2', n3', n4', n5', m0, m1, m2, m3, m4, m5⟩ := sam_of hqx
  obtain ⟨k0, k1, k2, k3, k4, k5⟩ := six_of hqx
  have PX0 : Hid (PgAt wx w1.heap.size x) := hide (by rw [HXX.out]; exact hqx)
  have BX := hide (B1.out.trans (bwx.mono B1.out.size))
  have HGX0 : Hid (w.heap.size ≤ w1.heap.size) := hide B1.out.size
  clear bwx hqx
  go_upto_region 4 with fail
  obtain ⟨gx, hgx⟩ : ∃ g, w1.heap.size = g := ⟨_, rfl⟩
  rw [hgx] at PX0 HGX0 ⊢
  have PX := hide PX0.out
  have HGX := hide HGX0.out
  clear hgx hwx swx n0' n1' n2' n3' n4' n5' m0 m1 m2 m3 m4 m5 k0 k1 k2 k3 k4 k5 PX0 HGX0 HXX
  go_cut [12, 13, 14] from 41 to 52 (fun v12 v13 v14 wz => ∃ X, v12 = .pointer (some ⟨X, 0, none⟩) ∧ v13 = .bool true ∧ v14 = .int .i64 0 ∧ Hid (PgAt wz X q ∧ Below wx.heap.size wx wz ∧ wx.heap.size ≤ X))
  case first =>
    obtain ⟨W0, hW0⟩ : ∃ W, wx.drew = W := ⟨_, rfl⟩
    have bW0 : Below wx.heap.size wx W0 := by rw [← hW0]; exact (Below.refl _ _).drew
    have HB := hide (BX.out.trans (bW0.mono BX.out.size))
    have HSW : Hid (W0.heap.size = wx.heap.size) := hide (by rw [← hW0]; rfl)
    have SX : Hid (∀ W, Below W0.heap.size W0 W → (W.cell? ⟨gx, 0, none⟩ = some (.int .i64 x.e) ∧ W.cell? ⟨gx, 1, none⟩ = some (.int .u8 x.r) ∧ W.cell? ⟨gx, 2, none⟩ = some (.int .i64 x.a) ∧ W.cell? ⟨gx, 3, none⟩ = some (.int .u8 x.p) ∧ W.cell? ⟨gx, 4, none⟩ = some (.int .i64 x.f) ∧ W.cell? ⟨gx, 5, none⟩ = some (.int .i64 x.b))) := hide fun W hW => cells1 ((PX.out.below bW0).below hW)
    have D0 := hide (Below.refl W0.heap.size W0)
    have BW0 := hide bW0
    clear bW0
    refine region_any (ops := (regOf 4 Tryd.f6)) (S := fun W => (W.cell? ⟨gx, 0, none⟩ = some (.int .i64 x.e) ∧ W.cell? ⟨gx, 1, none⟩ = some (.int .u8 x.r) ∧ W.cell? ⟨gx, 2, none⟩ = some (.int .i64 x.a) ∧ W.cell? ⟨gx, 3, none⟩ = some (.int .u8 x.p) ∧ W.cell? ⟨gx, 4, none⟩ = some (.int .i64 x.f) ∧ W.cell? ⟨gx, 5, none⟩ = some (.int .i64 x.b))) (by kernel_rfl) wrp_size ?_
    rw [wrp_new, hW0]
    refine any_take (v := ?_) wrp_t0_0 (by kernel_rfl) (fun _ _ _ _ _ h => h) (SX.out _ D0.out) rfl rfl (by rfl) ?_ ?_
    rotate_left 1
    · intro w hS
      (try dsimp only at hS)
      go_simp
      all_goals with_reducible rfl
    simp only [Act.put, List.setIfInBounds_toArray, List.set_cons_zero, List.set_cons_succ]
    refine any_take (v := ?_) wrp_t1_1 (by kernel_rfl) (fun _ _ _ _ _ h => h) (SX.out _ D0.out) rfl rfl (by rfl) ?_ ?_
    rotate_left 1
    · intro w hS
      (try dsimp only at hS)
      go_simp
      all_goals with_reducible rfl
    simp only [Act.put, List.setIfInBounds_toArray, List.set_cons_zero, List.set_cons_succ]
    refine any_take (v := ?_) wrp_t3_2 (by kernel_rfl) (fun _ _ _ _ _ h => h) (SX.out _ D0.out) rfl rfl (by rfl) ?_ ?_
    rotate_left 1
    · intro w hS
      (try dsimp only at hS)
      go_simp
      all_goals with_reducible rfl
    simp only [Act.put, List.setIfInBounds_toArray, List.set_cons_zero, List.set_cons_succ]
    refine any_take (v := ?_) wrp_t7_3 (by kernel_rfl) (fun _ _ _ _ _ h => h) (SX.out _ D0.out) rfl rfl (by rfl) ?_ ?_
    rotate_left 1
    · intro w hS
      (try dsimp only at hS)
      go_simp
      all_goals with_reducible rfl
    simp only [Act.put, List.setIfInBounds_toArray, List.set_cons_zero, List.set_cons_succ]
    refine any_take (v := ?_) wrp_t15_4 (by kernel_rfl) (fun _ _ _ _ _ h => h) (SX.out _ D0.out) rfl rfl (by rfl) ?_ ?_
    rotate_left 1
    · intro w hS
      (try dsimp only at hS)
      go_simp
      all_goals with_reducible rfl
    simp only [Act.put, List.setIfInBounds_toArray, List.set_cons_zero, List.set_cons_succ]
    refine any_two wrp_r31 ?_ ?_
    · refine any_op rfl (by rfl) (fun K hK => ?_)
      go_simp
      refine (PKM.out _).mono ?_
      rintro E Up ⟨rfl, rfl⟩
      go_wp2_with fail
      refine hK.out _ _ (SX.out _ D0.out) ?_
      clear hK K
      try simp only [Act.put, List.setIfInBounds_toArray, List.set_cons_zero, List.set_cons_succ]
      refine any_take (v := ?_) wrp_t63_6 (by kernel_rfl) (fun _ _ _ _ _ h => h) (SX.out _ D0.out) rfl rfl (by rfl) ?_ ?_
      rotate_left 1
      · intro w hS
        (try dsimp only at hS)
        go_simp
        all_goals with_reducible rfl
      simp only [Act.put, List.setIfInBounds_toArray, List.set_cons_zero, List.set_cons_succ]
      refine any_two wrp_r127 ?_ ?_
      · refine any_op rfl (by rfl) (fun K hK => ?_)
        go_simp
        refine (C1.out _ (HM.out.below (HB.out.trans (D0.out.mono HB.out.size)))).mono ?_
        rintro E U2 ⟨rfl, bq2⟩
        have D2 := hide (D0.out.trans (bq2.mono D0.out.size))
        clear bq2
        go_wp2_with fail
        refine hK.out _ _ (SX.out _ D2.out) ?_
        clear hK K
        try simp only [Act.put, List.setIfInBounds_toArray, List.set_cons_zero, List.set_cons_succ]
        refine any_take (v := ?_) wrp_t255_8 (by kernel_rfl) (fun _ _ _ _ _ h => h) (SX.out _ D2.out) rfl rfl (by rfl) ?_ ?_
        rotate_left 1
        · intro w hS
          (try dsimp only at hS)
          go_simp
          all_goals with_reducible rfl
        simp only [Act.put, List.setIfInBounds_toArray, List.set_cons_zero, List.set_cons_succ]
        refine any_take (v := ?_) wrp_t511_9 (by kernel_rfl) (fun _ _ _ _ _ h => h) (SX.out _ D2.out) rfl rfl (by rfl) ?_ ?_
        rotate_left 1
        · intro w hS
          (try dsimp only at hS)
          go_simp
          all_goals with_reducible rfl
        simp only [Act.put, List.setIfInBounds_toArray, List.set_cons_zero, List.set_cons_succ]
        refine any_take (v := ?_) wrp_t1023_10 (by kernel_rfl) (fun _ _ _ _ _ h => h) (SX.out _ D2.out) rfl rfl (by rfl) ?_ ?_
        rotate_left 1
        · intro w hS
          (try dsimp only at hS)
          go_simp
          all_goals with_reducible rfl
        simp only [Act.put, List.setIfInBounds_toArray, List.set_cons_zero, List.set_cons_succ]
        refine any_take (v := ?_) wrp_t2047_11 (by kernel_rfl) (fun _ _ _ _ _ h => h) (SX.out _ D2.out) rfl rfl (by rfl) ?_ ?_
        rotate_left 1
        · intro w hS
          (try dsimp only at hS)
          go_simp
          all_goals with_reducible rfl
        simp only [Act.put, List.setIfInBounds_toArray, List.set_cons_zero, List.set_cons_succ]
        refine any_one wrp_r4095 ?_
        obtain ⟨U3, hU3, sU3, bU3, qU3⟩ := blk_step U2 #[.int .i64 0, .int .u8 0, .int .i64 0, .int .u8 0, .int .i64 0, .int .i64 0] 25
        have D3 := hide (D2.out.trans (bU3.mono D2.out.size))
        have Q3 := hide qU3
        have GE := hide (D2.out.size)
        clear bU3 qU3
        refine any_op rfl (by rfl) (fun K hK => ?_)
        go_simp
        go_wp2_with fail
        refine hK.out _ _ (SX.out _ D3.out) ?_
        clear hK K
        try simp only [Act.put, List.setIfInBounds_toArray, List.set_cons_zero, List.set_cons_succ]
        refine any_one wrp_r8191 ?_
        obtain ⟨Z, hZ, pZ, gZ, ⟨a0, a1, a2, a3, a4, a5⟩, fr, ⟨z0, z1, z2, z3, z4, z5⟩⟩ := put6 Q3.out (.int .i64 q.e) (.int .u8 q.r) (.int .i64 q.a) (.int .u8 q.p) (.int .i64 q.f) (.int .i64 q.b)
        have f0 := fr 0; have f1 := fr 1; have f2 := fr 2; have f3 := fr 3; have f4 := fr 4; have f5 := fr 5
        have DZ := hide (below_put D3.out gZ GE.out D3.out.size)
        have QZ : Hid (PgAt Z U2.heap.size q) := hide pZ
        clear gZ pZ fr
        refine any_op rfl (by rfl) (fun K hK => ?_)
        go_simp
        go_wp2_with fail
        refine hK.out _ _ (SX.out _ DZ.out) ?_
        clear hK K
        try simp only [Act.put, List.setIfInBounds_toArray, List.set_cons_zero, List.set_cons_succ]
        refine any_take (v := ?_) wrp_t16383_14 (by kernel_rfl) (fun _ _ _ _ _ h => h) (SX.out _ DZ.out) rfl rfl (by rfl) ?_ ?_
        rotate_left 1
        · intro w hS
          (try dsimp only at hS)
          go_simp
          all_goals with_reducible rfl
        simp only [Act.put, List.setIfInBounds_toArray, List.set_cons_zero, List.set_cons_succ]
        refine any_take (v := ?_) wrp_t32767_15 (by kernel_rfl) (fun _ _ _ _ _ h => h) (SX.out _ DZ.out) rfl rfl (by rfl) ?_ ?_
        rotate_left 1
        · intro w hS
          (try dsimp only at hS)
          go_simp
          all_goals with_reducible rfl
        simp only [Act.put, List.setIfInBounds_toArray, List.set_cons_zero, List.set_cons_succ]
        refine any_done wrp_end ?_
        have FIN : Hid (PgAt Z U2.heap.size q ∧ Below wx.heap.size wx Z ∧ wx.heap.size ≤ U2.heap.size) := hide ⟨QZ.out, BW0.out.trans (DZ.out.mono BW0.out.size), by have := GE.out; have := HSW.out; omega⟩
        clear SX
        go_wp2
        go_meet
        exact ⟨_, rfl, rfl, rfl, FIN⟩
      · obtain ⟨U5, hU5, sU5, bU5, qU5⟩ := blk_step W0 #[.int .i64 0, .int .u8 0, .int .i64 0, .int .u8 0, .int .i64 0, .int .i64 0] 25
        have D5 := hide (D0.out.trans (bU5.mono D0.out.size))
        have Q5 := hide qU5
        have GE := hide (D0.out.size)
        clear bU5 qU5
        refine any_op rfl (by rfl) (fun K hK => ?_)
        go_simp
        go_wp2_with fail
        refine hK.out _ _ (SX.out _ D5.out) ?_
        clear hK K
        try simp only [Act.put, List.setIfInBounds_toArray, List.set_cons_zero, List.set_cons_succ]
        refine any_one wrp_r4223 ?_
        refine any_op rfl (by rfl) (fun K hK => ?_)
        go_simp
        refine (C1.out _ (HM.out.below (HB.out.trans (D5.out.mono HB.out.size)))).mono ?_
        rintro E U6 ⟨rfl, bq6⟩
        have D6 := hide (D5.out.trans (bq6.mono D5.out.size))
        have Q6 := hide ((bq6.block _ (blk_lt Q5.out)).trans Q5.out)
        clear bq6
        go_wp2_with fail
        refine hK.out _ _ (SX.out _ D6.out) ?_
        clear hK K
        try simp only [Act.put, List.setIfInBounds_toArray, List.set_cons_zero, List.set_cons_succ]
        refine any_take (v := ?_) wrp_t4351_8 (by kernel_rfl) (fun _ _ _ _ _ h => h) (SX.out _ D6.out) rfl rfl (by rfl) ?_ ?_
        rotate_left 1
        · intro w hS
          (try dsimp only at hS)
          go_simp
          all_goals with_reducible rfl
        simp only [Act.put, List.setIfInBounds_toArray, List.set_cons_zero, List.set_cons_succ]
        refine any_take (v := ?_) wrp_t4607_9 (by kernel_rfl) (fun _ _ _ _ _ h => h) (SX.out _ D6.out) rfl rfl (by rfl) ?_ ?_
        rotate_left 1
        · intro w hS
          (try dsimp only at hS)
          go_simp
          all_goals with_reducible rfl
        simp only [Act.put, List.setIfInBounds_toArray, List.set_cons_zero, List.set_cons_succ]
        refine any_take (v := ?_) wrp_t5119_10 (by kernel_rfl) (fun _ _ _ _ _ h => h) (SX.out _ D6.out) rfl rfl (by rfl) ?_ ?_
        rotate_left 1
        · intro w hS
          (try dsimp only at hS)
          go_simp
          all_goals with_reducible rfl
        simp only [Act.put, List.setIfInBounds_toArray, List.set_cons_zero, List.set_cons_succ]
        refine any_take (v := ?_) wrp_t6143_11 (by kernel_rfl) (fun _ _ _ _ _ h => h) (SX.out _ D6.out) rfl rfl (by rfl) ?_ ?_
        rotate_left 1
        · intro w hS
          (try dsimp only at hS)
          go_simp
          all_goals with_reducible rfl
        simp only [Act.put, List.setIfInBounds_toArray, List.set_cons_zero, List.set_cons_succ]
        refine any_one wrp_r8191 ?_
        obtain ⟨Z, hZ, pZ, gZ, ⟨a0, a1, a2, a3, a4, a5⟩, fr, ⟨z0, z1, z2, z3, z4, z5⟩⟩ := put6 Q6.out (.int .i64 q.e) (.int .u8 q.r) (.int .i64 q.a) (.int .u8 q.p) (.int .i64 q.f) (.int .i64 q.b)
        have f0 := fr 0; have f1 := fr 1; have f2 := fr 2; have f3 := fr 3; have f4 := fr 4; have f5 := fr 5
        have DZ := hide (below_put D6.out gZ GE.out D6.out.size)
        have QZ : Hid (PgAt Z W0.heap.size q) := hide pZ
        clear gZ pZ fr
        refine any_op rfl (by rfl) (fun K hK => ?_)
        go_simp
        go_wp2_with fail
        refine hK.out _ _ (SX.out _ DZ.out) ?_
        clear hK K
        try simp only [Act.put, List.setIfInBounds_toArray, List.set_cons_zero, List.set_cons_succ]
        refine any_take (v := ?_) wrp_t16383_14 (by kernel_rfl) (fun _ _ _ _ _ h => h) (SX.out _ DZ.out) rfl rfl (by rfl) ?_ ?_
        rotate_left 1
        · intro w hS
          (try dsimp only at hS)
          go_simp
          all_goals with_reducible rfl
        simp only [Act.put, List.setIfInBounds_toArray, List.set_cons_zero, List.set_cons_succ]
        refine any_take (v := ?_) wrp_t32767_15 (by kernel_rfl) (fun _ _ _ _ _ h => h) (SX.out _ DZ.out) rfl rfl (by rfl) ?_ ?_
        rotate_left 1
        · intro w hS
          (try dsimp only at hS)
          go_simp
          all_goals with_reducible rfl
        simp only [Act.put, List.setIfInBounds_toArray, List.set_cons_zero, List.set_cons_succ]
        refine any_done wrp_end ?_
        have FIN : Hid (PgAt Z W0.heap.size q ∧ Below wx.heap.size wx Z ∧ wx.heap.size ≤ W0.heap.size) := hide ⟨QZ.out, BW0.out.trans (DZ.out.mono BW0.out.size), by have := GE.out; have := HSW.out; omega⟩
        clear SX
        go_wp2
        go_meet
        exact ⟨_, rfl, rfl, rfl, FIN⟩
    · obtain ⟨U8, hU8, sU8, bU8, qU8⟩ := blk_step W0 #[.int .i64 0, .int .u8 0, .int .i64 0, .int .u8 0, .int .i64 0, .int .i64 0] 25
      have D8 := hide (D0.out.trans (bU8.mono D0.out.size))
      have Q8 := hide qU8
      have GE := hide (D0.out.size)
      clear bU8 qU8
      refine any_op rfl (by rfl) (fun K hK => ?_)
      go_simp
      go_wp2_with fail
      refine hK.out _ _ (SX.out _ D8.out) ?_
      clear hK K
      try simp only [Act.put, List.setIfInBounds_toArray, List.set_cons_zero, List.set_cons_succ]
      refine any_one wrp_r4127 ?_
      refine any_op rfl (by rfl) (fun K hK => ?_)
      go_simp
      refine (PKM.out _).mono ?_
      rintro E Up ⟨rfl, rfl⟩
      go_wp2_with fail
      refine hK.out _ _ (SX.out _ D8.out) ?_
      clear hK K
      try simp only [Act.put, List.setIfInBounds_toArray, List.set_cons_zero, List.set_cons_succ]
      refine any_take (v := ?_) wrp_t4159_6 (by kernel_rfl) (fun _ _ _ _ _ h => h) (SX.out _ D8.out) rfl rfl (by rfl) ?_ ?_
      rotate_left 1
      · intro w hS
        (try dsimp only at hS)
        go_simp
        all_goals with_reducible rfl
      simp only [Act.put, List.setIfInBounds_toArray, List.set_cons_zero, List.set_cons_succ]
      refine any_one wrp_r4223 ?_
      refine any_op rfl (by rfl) (fun K hK => ?_)
      go_simp
      refine (C1.out _ (HM.out.below (HB.out.trans (D8.out.mono HB.out.size)))).mono ?_
      rintro E U10 ⟨rfl, bq10⟩
      have D10 := hide (D8.out.trans (bq10.mono D8.out.size))
      have Q10 := hide ((bq10.block _ (blk_lt Q8.out)).trans Q8.out)
      clear bq10
      go_wp2_with fail
      refine hK.out _ _ (SX.out _ D10.out) ?_
      clear hK K
      try simp only [Act.put, List.setIfInBounds_toArray, List.set_cons_zero, List.set_cons_succ]
      refine any_take (v := ?_) wrp_t4351_8 (by kernel_rfl) (fun _ _ _ _ _ h => h) (SX.out _ D10.out) rfl rfl (by rfl) ?_ ?_
      rotate_left 1
      · intro w hS
        (try dsimp only at hS)
        go_simp
        all_goals with_reducible rfl
      simp only [Act.put, List.setIfInBounds_toArray, List.set_cons_zero, List.set_cons_succ]
      refine any_take (v := ?_) wrp_t4607_9 (by kernel_rfl) (fun _ _ _ _ _ h => h) (SX.out _ D10.out) rfl rfl (by rfl) ?_ ?_
      rotate_left 1
      · intro w hS
        (try dsimp only at hS)
        go_simp
        all_goals with_reducible rfl
      simp only [Act.put, List.setIfInBounds_toArray, List.set_cons_zero, List.set_cons_succ]
      refine any_take (v := ?_) wrp_t5119_10 (by kernel_rfl) (fun _ _ _ _ _ h => h) (SX.out _ D10.out) rfl rfl (by rfl) ?_ ?_
      rotate_left 1
      · intro w hS
        (try dsimp only at hS)
        go_simp
        all_goals with_reducible rfl
      simp only [Act.put, List.setIfInBounds_toArray, List.set_cons_zero, List.set_cons_succ]
      refine any_take (v := ?_) wrp_t6143_11 (by kernel_rfl) (fun _ _ _ _ _ h => h) (SX.out _ D10.out) rfl rfl (by rfl) ?_ ?_
      rotate_left 1
      · intro w hS
        (try dsimp only at hS)
        go_simp
        all_goals with_reducible rfl
      simp only [Act.put, List.setIfInBounds_toArray, List.set_cons_zero, List.set_cons_succ]
      refine any_one wrp_r8191 ?_
      obtain ⟨Z, hZ, pZ, gZ, ⟨a0, a1, a2, a3, a4, a5⟩, fr, ⟨z0, z1, z2, z3, z4, z5⟩⟩ := put6 Q10.out (.int .i64 q.e) (.int .u8 q.r) (.int .i64 q.a) (.int .u8 q.p) (.int .i64 q.f) (.int .i64 q.b)
      have f0 := fr 0; have f1 := fr 1; have f2 := fr 2; have f3 := fr 3; have f4 := fr 4; have f5 := fr 5
      have DZ := hide (below_put D10.out gZ GE.out D10.out.size)
      have QZ : Hid (PgAt Z W0.heap.size q) := hide pZ
      clear gZ pZ fr
      refine any_op rfl (by rfl) (fun K hK => ?_)
      go_simp
      go_wp2_with fail
      refine hK.out _ _ (SX.out _ DZ.out) ?_
      clear hK K
      try simp only [Act.put, List.setIfInBounds_toArray, List.set_cons_zero, List.set_cons_succ]
      refine any_take (v := ?_) wrp_t16383_14 (by kernel_rfl) (fun _ _ _ _ _ h => h) (SX.out _ DZ.out) rfl rfl (by rfl) ?_ ?_
      rotate_left 1
      · intro w hS
        (try dsimp only at hS)
        go_simp
        all_goals with_reducible rfl
      simp only [Act.put, List.setIfInBounds_toArray, List.set_cons_zero, List.set_cons_succ]
      refine any_take (v := ?_) wrp_t32767_15 (by kernel_rfl) (fun _ _ _ _ _ h => h) (SX.out _ DZ.out) rfl rfl (by rfl) ?_ ?_
      rotate_left 1
      · intro w hS
        (try dsimp only at hS)
        go_simp
        all_goals with_reducible rfl
      simp only [Act.put, List.setIfInBounds_toArray, List.set_cons_zero, List.set_cons_succ]
      refine any_done wrp_end ?_
      have FIN : Hid (PgAt Z W0.heap.size q ∧ Below wx.heap.size wx Z ∧ wx.heap.size ≤ W0.heap.size) := hide ⟨QZ.out, BW0.out.trans (DZ.out.mono BW0.out.size), by have := GE.out; have := HSW.out; omega⟩
      clear SX
      go_wp2
      go_meet
      exact ⟨_, rfl, rfl, rfl, FIN⟩
  case rest =>
  obtain ⟨X, rfl, rfl, rfl, HC⟩ := hcut
  have BC := hide (BX.out.trans (HC.out.2.1.mono BX.out.size))
  replace PX := hide (PX.out.below HC.out.2.1)
  have PQ := hide HC.out.1
  have HQX : Hid (w.heap.size ≤ X) := hide (by have := HC.out.2.2; have := BX.out.size; omega)
  clear HC C1 PKM hw0 hw1
  obtain ⟨pxc0, pxc1, pxc2, pxc3, pxc4, pxc5⟩ := PX.out.six
  obtain ⟨pqc0, pqc1, pqc2, pqc3, pqc4, pqc5⟩ := PQ.out.six
  go_wp2_with fail
  refine (R1.out wc (HM.out.below BC.out)).mono ?_
  rintro E v1 ⟨rfl, b1⟩
  replace PX := hide (PX.out.below b1)
  replace PQ := hide (PQ.out.below b1)
  have B1 := hide (BC.out.trans (b1.mono BC.out.size))
  have zs1 := b1.size
  clear b1 pxc0 pxc1 pxc2 pxc3 pxc4 pxc5 pqc0 pqc1 pqc2 pqc3 pqc4 pqc5
  obtain ⟨pqc0, pqc1, pqc2, pqc3, pqc4, pqc5⟩ := PQ.out.six
  go_wp2_with fail
  refine (R2.out v1 (HM.out.below B1.out)).mono ?_
  rintro E v2 ⟨rfl, b2⟩
  replace PX := hide (PX.out.below b2)
  replace PQ := hide (PQ.out.below b2)
  have B2 := hide (B1.out.trans (b2.mono B1.out.size))
  have zs2 := b2.size
  clear b2 pqc0 pqc1 pqc2 pqc3 pqc4 pqc5
  obtain ⟨pqc0, pqc1, pqc2, pqc3, pqc4, pqc5⟩ := PQ.out.six
  go_wp2_with fail
  refine (C2.out v2 (HM.out.below B2.out)).mono ?_
  rintro E v3 ⟨rfl, b3⟩
  replace PX := hide (PX.out.below b3)
  replace PQ := hide (PQ.out.below b3)
  have B3 := hide (B2.out.trans (b3.mono B2.out.size))
  have zs3 := b3.size
  clear b3 pqc0 pqc1 pqc2 pqc3 pqc4 pqc5
  obtain ⟨v4, hv4, sv4, bv4, hq4, _, _⟩ := newp v3 z
  replace PX := hide (PX.out.below bv4)
  replace PQ := hide (PQ.out.below bv4)
  have PZ1 : Hid (PgAt v4 v3.heap.size z) := hide hq4
  have B4 := hide (B3.out.trans (bv4.mono B3.out.size))
  clear bv4 hq4
  obtain ⟨pqc0, pqc1, pqc2, pqc3, pqc4, pqc5⟩ := PQ.out.six
  go_wp2_with fail
  refine (C3.out v4 (HM.out.below B4.out)).mono ?_
  rintro E v5 ⟨rfl, b5⟩
  replace PX := hide (PX.out.below b5)
  replace PQ := hide (PQ.out.below b5)
  replace PZ1 := hide (PZ1.out.below b5)
  have B5 := hide (B4.out.trans (b5.mono B4.out.size))
  have zs5 := b5.size
  clear b5 hv4 pqc0 pqc1 pqc2 pqc3 pqc4 pqc5
  obtain ⟨v6, hv6, sv6, bv6, hq6, _, _⟩ := newp v5 z
  replace PX := hide (PX.out.below bv6)
  replace PQ := hide (PQ.out.below bv6)
  replace PZ1 := hide (PZ1.out.below bv6)
  have PZ2 : Hid (PgAt v6 v5.heap.size z) := hide hq6
  have B6 := hide (B5.out.trans (bv6.mono B5.out.size))
  clear bv6 hq6
  obtain ⟨pqc0, pqc1, pqc2, pqc3, pqc4, pqc5⟩ := PQ.out.six
  go_wp2_with fail
  refine (C4.out v6 (HM.out.below B6.out)).mono ?_
  rintro E v7 ⟨rfl, b7⟩
  replace PX := hide (PX.out.below b7)
  replace PQ := hide (PQ.out.below b7)
  replace PZ1 := hide (PZ1.out.below b7)
  replace PZ2 := hide (PZ2.out.below b7)
  have B7 := hide (B6.out.trans (b7.mono B6.out.size))
  have zs7 := b7.size
  clear b7 hv6 pqc0 pqc1 pqc2 pqc3 pqc4 pqc5
  obtain ⟨v8, hv8, sv8, bv8, hq8, _, _⟩ := newp v7 z
  replace PX := hide (PX.out.below bv8)
  replace PQ := hide (PQ.out.below bv8)
  replace PZ1 := hide (PZ1.out.below bv8)
  replace PZ2 := hide (PZ2.out.below bv8)
  have PZ3 : Hid (PgAt v8 v7.heap.size z) := hide hq8
  have B8 := hide (B7.out.trans (bv8.mono B7.out.size))
  clear bv8 hq8
  obtain ⟨pqc0, pqc1, pqc2, pqc3, pqc4, pqc5⟩ := PQ.out.six
  go_wp2_with fail
  refine (C5.out v8 (HM.out.below B8.out)).mono ?_
  rintro E v9 ⟨rfl, b9⟩
  replace PX := hide (PX.out.below b9)
  replace PQ := hide (PQ.out.below b9)
  replace PZ1 := hide (PZ1.out.below b9)
  replace PZ2 := hide (PZ2.out.below b9)
  replace PZ3 := hide (PZ3.out.below b9)
  have B9 := hide (B8.out.trans (b9.mono B8.out.size))
  have zs9 := b9.size
  clear b9 hv8 pqc0 pqc1 pqc2 pqc3 pqc4 pqc5
  obtain ⟨v10, hv10, sv10, bv10, hq10, _, _⟩ := newp v9 z
  replace PX := hide (PX.out.below bv10)
  replace PQ := hide (PQ.out.below bv10)
  replace PZ1 := hide (PZ1.out.below bv10)
  replace PZ2 := hide (PZ2.out.below bv10)
  replace PZ3 := hide (PZ3.out.below bv10)
  have PZ4 : Hid (PgAt v10 v9.heap.size z) := hide hq10
  have B10 := hide (B9.out.trans (bv10.mono B9.out.size))
  clear bv10 hq10
  go_wp2_with fail
  refine (PKF.out _).mono ?_
  rintro E0 vv ⟨rfl, rfl⟩
  clear hv10
  go_wp2_with fail
  refine (PKB.out _).mono ?_
  rintro E0 vv ⟨rfl, rfl⟩
  clear PZ1 PZ2 PZ3 PZ4 PX
  obtain ⟨pqc0, pqc1, pqc2, pqc3, pqc4, pqc5⟩ := PQ.out.six
  go_wp2_with fail
  refine (C6.out v10 (HM.out.below B10.out)).mono ?_
  rintro E v11 ⟨rfl, b11⟩
  replace PQ := hide (PQ.out.below b11)
  have B11 := hide (B10.out.trans (b11.mono B10.out.size))
  have zs11 := b11.size
  clear b11 pqc0 pqc1 pqc2 pqc3 pqc4 pqc5
  obtain ⟨v12, hv12, sv12, bv12, hq12, _, _⟩ := newp v11 r
  replace PQ := hide (PQ.out.below bv12)
  have PR : Hid (PgAt v12 v11.heap.size r) := hide hq12
  have B12 := hide (B11.out.trans (bv12.mono B11.out.size))
  clear bv12 hq12
  obtain ⟨prc0, prc1, prc2, prc3, prc4, prc5⟩ := PR.out.six
  go_wp2_with fail
  refine (C7.out v12 (HM.out.below B12.out)).mono ?_
  rintro E v13 ⟨rfl, b13⟩
  replace PQ := hide (PQ.out.below b13)
  replace PR := hide (PR.out.below b13)
  have B13 := hide (B12.out.trans (b13.mono B12.out.size))
  have zs13 := b13.size
  clear b13 hv12 prc0 prc1 prc2 prc3 prc4 prc5
  obtain ⟨v14, hv14, sv14, bv14, hq14, _, _⟩ := newp v13 s
  replace PQ := hide (PQ.out.below bv14)
  replace PR := hide (PR.out.below bv14)
  have PS : Hid (PgAt v14 v13.heap.size s) := hide hq14
  have B14 := hide (B13.out.trans (bv14.mono B13.out.size))
  clear bv14 hq14
  obtain ⟨psc0, psc1, psc2, psc3, psc4, psc5⟩ := PS.out.six
  go_wp2_with fail
  refine (C8.out v14 (HM.out.below B14.out)).mono ?_
  rintro E v15 ⟨rfl, b15⟩
  replace PQ := hide (PQ.out.below b15)
  replace PR := hide (PR.out.below b15)
  replace PS := hide (PS.out.below b15)
  have B15 := hide (B14.out.trans (b15.mono B14.out.size))
  have zs15 := b15.size
  clear b15 hv14 psc0 psc1 psc2 psc3 psc4 psc5
  obtain ⟨v16, hv16, sv16, bv16, hq16, _, _⟩ := newp v15 t
  replace PQ := hide (PQ.out.below bv16)
  replace PR := hide (PR.out.below bv16)
  replace PS := hide (PS.out.below bv16)
  have PT : Hid (PgAt v16 v15.heap.size t) := hide hq16
  have B16 := hide (B15.out.trans (bv16.mono B15.out.size))
  clear bv16 hq16
  obtain ⟨ptc0, ptc1, ptc2, ptc3, ptc4, ptc5⟩ := PT.out.six
  go_wp2_with fail
  refine (C9.out v16 (HM.out.below B16.out)).mono ?_
  rintro E v17 ⟨rfl, b17⟩
  replace PQ := hide (PQ.out.below b17)
  replace PR := hide (PR.out.below b17)
  replace PS := hide (PS.out.below b17)
  replace PT := hide (PT.out.below b17)
  have B17 := hide (B16.out.trans (b17.mono B16.out.size))
  have zs17 := b17.size
  clear b17 hv16 ptc0 ptc1 ptc2 ptc3 ptc4 ptc5
  obtain ⟨v18, hv18, sv18, bv18, hq18, _, _⟩ := newp v17 u
  replace PQ := hide (PQ.out.below bv18)
  replace PR := hide (PR.out.below bv18)
  replace PS := hide (PS.out.below bv18)
  replace PT := hide (PT.out.below bv18)
  have PU : Hid (PgAt v18 v17.heap.size u) := hide hq18
  have B18 := hide (B17.out.trans (bv18.mono B17.out.size))
  clear bv18 hq18
  obtain ⟨prc0, prc1, prc2, prc3, prc4, prc5⟩ := PR.out.six
  obtain ⟨psc0, psc1, psc2, psc3, psc4, psc5⟩ := PS.out.six
  obtain ⟨ptc0, ptc1, ptc2, ptc3, ptc4, ptc5⟩ := PT.out.six
  obtain ⟨vl, hvl, svl, bvl, hql⟩ := blk_step v18 #[.int .i64 r.e, .int .u8 r.r, .int .i64 r.a, .int .u8 r.p, .int .i64 r.f, .int .i64 r.b, .int .i64 s.e, .int .u8 s.r, .int .i64 s.a, .int .u8 s.p, .int .i64 s.f, .int .i64 s.b, .int .i64 t.e, .int .u8 t.r, .int .i64 t.a, .int .u8 t.p, .int .i64 t.f, .int .i64 t.b] 25
  obtain ⟨gl, hgl⟩ : ∃ g, v18.heap.size = g := ⟨_, rfl⟩
  have LST : Hid (∀ i : Nat, i < 3 → ∃ y : Pm.Pg, Pm.Ok y ∧ y.r = 3 ∧ (y.e != q.e) = false ∧ (y.f != F) = false ∧ (y.b != Bs) = false ∧ ∀ W, Below vl.heap.size vl W → W.cell? ⟨gl, i * 6, none⟩ = some (.int .i64 y.e) ∧ W.cell? ⟨gl, i * 6 + 1, none⟩ = some (.int .u8 y.r) ∧ W.cell? ⟨gl, i * 6 + 2, none⟩ = some (.int .i64 y.a) ∧ W.cell? ⟨gl, i * 6 + 3, none⟩ = some (.int .u8 y.p) ∧ W.cell? ⟨gl, i * 6 + 4, none⟩ = some (.int .i64 y.f) ∧ W.cell? ⟨gl, i * 6 + 5, none⟩ = some (.int .i64 y.b)) := hide fun i hi => by
    obtain ⟨y, h0, h1, h2, ok, hr, he, hf, hb⟩ := ALL.out i hi
    refine ⟨y, ok, hr, by simp [he], by simp [hf], by simp [hb], fun W hW => ?_⟩
    rw [hgl] at hql
    have hqW := (hW.block gl (by omega)).trans hql
    rcases (show i = 0 ∨ i = 1 ∨ i = 2 by omega) with h | h | h
    · rw [h0 h, h]
      exact ⟨blk_cell hqW 0 rfl, blk_cell hqW 1 rfl, blk_cell hqW 2 rfl, blk_cell hqW 3 rfl, blk_cell hqW 4 rfl, blk_cell hqW 5 rfl⟩
    · rw [h1 h, h]
      exact ⟨blk_cell hqW 6 rfl, blk_cell hqW 7 rfl, blk_cell hqW 8 rfl, blk_cell hqW 9 rfl, blk_cell hqW 10 rfl, blk_cell hqW 11 rfl⟩
    · rw [h2 h, h]
      exact ⟨blk_cell hqW 12 rfl, blk_cell hqW 13 rfl, blk_cell hqW 14 rfl, blk_cell hqW 15 rfl, blk_cell hqW 16 rfl, blk_cell hqW 17 rfl⟩
  replace PQ := hide (PQ.out.below bvl)
  replace PU := hide (PU.out.below bvl)
  have BL := hide (B18.out.trans (bvl.mono B18.out.size))
  have HGL : Hid (v18.heap.size = gl) := hide hgl
  clear bvl hql svl hgl sv18
  go_wp2
  rw [HGL.out]
  clear hvl hv18 prc0 prc1 prc2 prc3 prc4 prc5 psc0 psc1 psc2 psc3 psc4 psc5 ptc0 ptc1 ptc2 ptc3 ptc4 ptc5 PR PS PT HGL
  go_loopw [31] (fun iv wr => ∃ i : Nat, iv = .int .i64 (i : Int) ∧ i ≤ 3 ∧ Hid (Below vl.heap.size vl wr)) (fun iv _ => 3 - (intOf iv).toNat)
  case atStart => exact ⟨0, rfl, by omega, hide (Below.refl _ _)⟩
  case round =>
    obtain ⟨i, rfl, hi, HS⟩ := hrel
    by_cases hlt : i < 3
    · have hlt' : (i : Int) < 3 := by omega
      have hi0 : (0 : Int) ≤ (i : Int) := by omega
      obtain ⟨y, ok, hyr, hye, hyf, hyb, hcs⟩ := LST.out i hlt
      have CH : Hid (∀ W, Mst W → Calls Tryd.prog 31 #[.agg #[.int .i64 y.e, .int .u8 y.r, .int .i64 y.a, .int .u8 y.p, .int .i64 y.f, .int .i64 y.b]] W fun E w' => E = .returned (.int .i64 0) ∧ Below W.heap.size W w') := hide fun W hm => by
        have := pgcheck_any y W (fit_ok ok) hm
        rw [chk_is ok] at this
        exact this
      have WR : Hid (∀ W, Mst W → Calls Tryd.prog 15 #[.agg #[.int .i64 y.e, .int .u8 y.r, .int .i64 y.a, .int .u8 y.p, .int .i64 y.f, .int .i64 y.b]] W fun E w' => E = .returned (.int .i64 9) ∧ Below W.heap.size W w') := hide fun W hm => by
        have := pwrites_any y W (fit_ok ok) hm
        rw [wr_is ok, if_neg (by omega), if_pos hyr] at this
        exact this
      have SX : Hid (∀ W, Below wr.heap.size wr W → (W.cell? ⟨gl, i * 6, none⟩ = some (.int .i64 y.e) ∧ W.cell? ⟨gl, i * 6 + 1, none⟩ = some (.int .u8 y.r) ∧ W.cell? ⟨gl, i * 6 + 2, none⟩ = some (.int .i64 y.a) ∧ W.cell? ⟨gl, i * 6 + 3, none⟩ = some (.int .u8 y.p) ∧ W.cell? ⟨gl, i * 6 + 4, none⟩ = some (.int .i64 y.f) ∧ W.cell? ⟨gl, i * 6 + 5, none⟩ = some (.int .i64 y.b)) ∧ W.cell? ⟨X, 0, none⟩ = some (.int .i64 q.e)) := hide fun W hW => ⟨hcs W (HS.out.trans (hW.mono HS.out.size)), ((PQ.out.below HS.out).below hW).six.c0⟩
      have BR := hide (BL.out.trans (HS.out.mono BL.out.size))
      have D0 := hide ((Below.refl wr.heap.size wr).drew)
      have S0 := hide (SX.out wr (Below.refl _ _))
      have HSR := hide HS.out
      clear hcs ok hyr LST PQ PU ALL HS C10 R3 R4 R5 S1 S2
      go_wp2_with fail
      go_region_held3 (fun W => (W.cell? ⟨gl, i * 6, none⟩ = some (.int .i64 y.e) ∧ W.cell? ⟨gl, i * 6 + 1, none⟩ = some (.int .u8 y.r) ∧ W.cell? ⟨gl, i * 6 + 2, none⟩ = some (.int .i64 y.a) ∧ W.cell? ⟨gl, i * 6 + 3, none⟩ = some (.int .u8 y.p) ∧ W.cell? ⟨gl, i * 6 + 4, none⟩ = some (.int .i64 y.f) ∧ W.cell? ⟨gl, i * 6 + 5, none⟩ = some (.int .i64 y.b)) ∧ W.cell? ⟨X, 0, none⟩ = some (.int .i64 q.e)) (first | exact S0.out | exact Sk0.out | exact Sk1.out | go_keep)
        (first
        | (go_at_call 31; refine (CH.out _ (HM.out.below (BR.out.trans (D0.out.mono BR.out.size)))).mono ?_; rintro E0 u0 ⟨rfl, c0⟩; have T0 := hide (D0.out.trans (c0.mono D0.out.size)); have Sk0 := hide (SX.out u0 T0.out); clear c0)
        | (go_at_call 15; refine (WR.out _ (HM.out.below (BR.out.trans (T0.out.mono BR.out.size)))).mono ?_; rintro E0 u1 ⟨rfl, c1⟩; have T1 := hide (T0.out.trans (c1.mono T0.out.size)); have Sk1 := hide (SX.out u1 T1.out); clear c1))
      have FIN := hide (HSR.out.trans (T1.out.mono HSR.out.size))
      clear SX S0 Sk0 Sk1 CH WR D0 BR T0 T1 HSR
      go_wp2
      go_roundw
      case rel => exact ⟨i + 1, by go_num, by omega, FIN⟩
      case measure => simp [intOf]; omega
    · have hlt' : ¬ (i : Int) < 3 := by omega
      have hQ := hide (PQ.out.below HS.out)
      have hU := hide (PU.out.below HS.out)
      have BR := hide (BL.out.trans (HS.out.mono BL.out.size))
      clear HS LST PQ PU BL ALL
      have PQ := hide hQ.out
      have PU := hide hU.out
      clear hQ hU
      obtain ⟨puc0, puc1, puc2, puc3, puc4, puc5⟩ := PU.out.six
      go_wp2_with fail
      refine (C10.out wr (HM.out.below BR.out)).mono ?_
      rintro E v19 ⟨rfl, b19⟩
      replace PQ := hide (PQ.out.below b19)
      replace PU := hide (PU.out.below b19)
      have B19 := hide (BR.out.trans (b19.mono BR.out.size))
      have zs19 := b19.size
      clear b19 puc0 puc1 puc2 puc3 puc4 puc5
      obtain ⟨v20, hv20, sv20, bv20, hq20, _, _⟩ := newp v19 v
      replace PQ := hide (PQ.out.below bv20)
      replace PU := hide (PU.out.below bv20)
      have PV : Hid (PgAt v20 v19.heap.size v) := hide hq20
      have B20 := hide (B19.out.trans (bv20.mono B19.out.size))
      clear bv20 hq20
      obtain ⟨pqc0, pqc1, pqc2, pqc3, pqc4, pqc5⟩ := PQ.out.six
      obtain ⟨puc0, puc1, puc2, puc3, puc4, puc5⟩ := PU.out.six
      go_wp2_with fail
      refine (S1.out v20).mono ?_
      rintro E v21 ⟨rfl, b21⟩
      replace PQ := hide (PQ.out.below b21)
      replace PU := hide (PU.out.below b21)
      replace PV := hide (PV.out.below b21)
      have B21 := hide (B20.out.trans (b21.mono B20.out.size))
      have zs21 := b21.size
      clear b21 hv20 pqc0 pqc1 pqc2 pqc3 pqc4 pqc5 puc0 puc1 puc2 puc3 puc4 puc5
      obtain ⟨puc0, puc1, puc2, puc3, puc4, puc5⟩ := PU.out.six
      go_wp2_with fail
      refine (R3.out v21 (HM.out.below B21.out)).mono ?_
      rintro E v22 ⟨rfl, b22⟩
      replace PQ := hide (PQ.out.below b22)
      replace PU := hide (PU.out.below b22)
      replace PV := hide (PV.out.below b22)
      have B22 := hide (B21.out.trans (b22.mono B21.out.size))
      have zs22 := b22.size
      clear b22 puc0 puc1 puc2 puc3 puc4 puc5
      obtain ⟨puc0, puc1, puc2, puc3, puc4, puc5⟩ := PU.out.six
      go_wp2_with fail
      refine (R4.out v22 (HM.out.below B22.out)).mono ?_
      rintro E v23 ⟨rfl, b23⟩
      replace PQ := hide (PQ.out.below b23)
      replace PU := hide (PU.out.below b23)
      replace PV := hide (PV.out.below b23)
      have B23 := hide (B22.out.trans (b23.mono B22.out.size))
      have zs23 := b23.size
      clear b23 puc0 puc1 puc2 puc3 puc4 puc5
      obtain ⟨pqc0, pqc1, pqc2, pqc3, pqc4, pqc5⟩ := PQ.out.six
      obtain ⟨pvc0, pvc1, pvc2, pvc3, pvc4, pvc5⟩ := PV.out.six
      go_wp2_with fail
      refine (S2.out v23).mono ?_
      rintro E v24 ⟨rfl, b24⟩
      replace PQ := hide (PQ.out.below b24)
      replace PU := hide (PU.out.below b24)
      replace PV := hide (PV.out.below b24)
      have B24 := hide (B23.out.trans (b24.mono B23.out.size))
      have zs24 := b24.size
      clear b24 pqc0 pqc1 pqc2 pqc3 pqc4 pqc5 pvc0 pvc1 pvc2 pvc3 pvc4 pvc5
      obtain ⟨pvc0, pvc1, pvc2, pvc3, pvc4, pvc5⟩ := PV.out.six
      go_wp2_with fail
      refine (R5.out v24 (HM.out.below B24.out)).mono ?_
      rintro E v25 ⟨rfl, b25⟩
      replace PQ := hide (PQ.out.below b25)
      replace PU := hide (PU.out.below b25)
      replace PV := hide (PV.out.below b25)
      have B25 := hide (B24.out.trans (b25.mono B24.out.size))
      have zs25 := b25.size
      clear b25 pvc0 pvc1 pvc2 pvc3 pvc4 pvc5
      go_wp2
      go_ret
      exact ⟨rfl, B25.out⟩

end Go.Proofs.YthndeolibilnnaaDoor
