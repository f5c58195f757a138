/- The contracts of op's readCounted and Read. -/
import Derived.Test.YtaejecompbmhcaaOpa
import Derived.Laws.BytesArg
namespace Go.Proofs.Ytaejecompbmhcaa
open Go.RowKit
set_option linter.unusedVariables false

/-- 'string(b)'. -/
theorem Is.conv {w : World} {v : Value} {zs : List Int} (h : Is .u8 w v zs) {P : Program} {src e dst : TypeId} (hs : P.underlying src = some (.slice e)) (he : P.underlying e = some (.int .u8)) (hd : P.underlying dst = some .string) :
    (convert src dst v).run P w = .ok (.string ⟨(Om.byts zs).toArray⟩) w := by
  by_cases hz : 0 < zs.length
  · obtain ⟨b, o, c, rfl, _, _, _, hc⟩ := h.full hz
    exact run_convert_bytes_arg w src e hs he b o zs.length c zs rfl hc dst hd
  · have : zs = [] := List.eq_nil_of_length_eq_zero (by omega)
    subst this
    obtain ⟨ao, c, rfl⟩ := h.bare
    cases ao with
    | none => exact run_convert_bytes_nil w src e hs he 0 c dst hd
    | some ad =>
      rw [run_convert_bytes_string w src dst e _ 0 c hs he hd, run_bytesToString w ad 0 c [] (by have := run_loadCells_list (P := P) w ad [] (by simp); simpa using this)]
      rfl

theorem Is.bytes {w : World} {v : Value} {zs : List Int} (h : Is .u8 w v zs) : ∀ z ∈ zs, 0 ≤ z ∧ z < 256 := by
  intro z hz
  obtain ⟨i, hi, rfl⟩ := List.getElem_of_mem hz
  have := h.byte i
  simpa [List.getD, hi] using this

theorem cres_bad {bs : List Int} {most : Nat} {u i g : Int} (hS : SRes bs most u i g) (hg : g ≠ 0) (hm : most ≤ 64) : ∀ t : List UInt8, t.length ≤ most → ¬ Om.cnt t <+: bs := by
  intro t ht hp
  have hp1 : Vm.enc t.length <+: bs := (List.prefix_append _ _).trans hp
  rcases hS with ⟨_, _, _, h⟩ | ⟨_, _, _, x, n, e, hR, hc⟩
  · exact hg h
  · have := Vm.res_good hR (u := t.length) (by omega) hp1
    omega

theorem cres_short {bs : List Int} {most : Nat} {u i : Int} (hR : Vm.Res bs u i 0) (hs : (bs.length : Int) - i < u) : ∀ t : List UInt8, t.length ≤ most → most ≤ 64 → ¬ Om.cnt t <+: bs := by
  intro t ht hm hp
  have hp1 : Vm.enc t.length <+: bs := (List.prefix_append _ _).trans hp
  have := Vm.res_good hR (u := t.length) (by omega) hp1
  have h2 := hp.length_le
  rw [Om.cnt_len] at h2
  omega

theorem cres_good {bs : List Int} {most u n : Nat} (hb : ∀ z ∈ bs, 0 ≤ z ∧ z < 256) (hR : Vm.Res bs u n 0) (hu : u ≤ most) (hs : n + u ≤ bs.length) :
    Om.CRes bs most (Om.byts ((bs.drop n).take u)) (n + u) 0 := by
  have hl : (Om.byts ((bs.drop n).take u)).length = u := by rw [Om.byts_len, List.length_take, List.length_drop]; omega
  rcases hR with ⟨x, _, hp, h1, h2, _⟩ | ⟨_, _, _, h⟩
  · have hx : x = u := by omega
    have hn : n = Vm.sz u := by rw [hx] at h2; omega
    subst hx
    refine .inl ⟨rfl, by rw [hl]; exact hu, ?_, ?_⟩
    · unfold Om.cnt
      rw [hl, Om.ints_byts (fun z hz => hb z (List.mem_of_mem_drop (List.mem_of_mem_take hz)))]
      obtain ⟨r, hr⟩ := hp
      have hln : (Vm.enc x).length = n := hn.symm
      have : bs.drop n = r := by rw [← hr, ← hln]; simp
      rw [this, ← hr]
      exact (List.prefix_append_right_inj _).2 (List.take_prefix _ _)
    · rw [Om.cnt_len, hl, hn]
  · simp at h

set_option maxHeartbeats 400000 in
theorem rcount_any (vb : Value) (bs : List Int) (a most : Nat) (w : World) (hb : Is .u8 w vb bs) (hl : bs.length ≤ 140737488355328) (h0 : 0 < bs.length) (ha : a ≤ bs.length) (hm : most ≤ 64) :
    Calls Try.prog 36 #[vb, .int .i64 a, .int .i64 most] w fun E w' => ∃ (s : ByteArray) (n : Nat) (d e : Int), E = .returned (.tuple #[.string s, .int .i64 d, .int .i64 e]) ∧ w = w' ∧ Om.CRes (bs.drop a) most s.data.toList n e ∧ (e = 0 → d = ((a + n : Nat) : Int) ∧ a + n ≤ bs.length) := by
  have hby := hb.bytes
  obtain ⟨b1, o1, c1, rfl, hcap, hcm, hB1, hc1⟩ := hb.full h0
  have isub := hb.sub a bs.length ha (Nat.le_refl _)
  rw [List.take_of_length_le (by simp)] at isub
  obtain ⟨u, i, g, hS⟩ := sres_is (bs.drop a) most
  have hS' := hS
  rcases hS with ⟨hR, h1, h2, rfl⟩ | ⟨rfl, rfl, rfl, x, n, e, hR, hcase⟩
  · have hbd := Vm.res_bounds hR
    have hdl : ((bs.drop a).length : Int) = bs.length - a := by rw [List.length_drop]; omega
    obtain ⟨un, rfl⟩ : ∃ un : Nat, u = un := ⟨u.toNat, by omega⟩
    obtain ⟨n, rfl⟩ : ∃ n : Nat, i = n := ⟨i.toNat, by omega⟩
    have hn10 : n ≤ 10 := by omega
    have hna : a + n ≤ bs.length := by omega
    have hca : a < c1 := by
      rcases hR with ⟨x, _, hp, _⟩ | ⟨_, _, _, h⟩
      · have := hp.length_le
        have := Vm.sz_pos x
        unfold Vm.sz at this
        omega
      · simp at h
    have hca' : c1 ≠ a := by omega
    by_cases hs : bs.length - (a + n) < un
    · have HG := hide (cres_short (most := most) hR (by rw [hdl]; omega))
      have hs' : (bs.length : Int) - ((a : Int) + n) < un := by omega
      clear hc1 hby
      have HS := hide hS'
      clear hS' hbd hdl
      go_enter Try.func36, Try.ntmps36
      go_wp2_with fail
      refine (small_any _ (bs.drop a) most un n 0 _ isub (by rw [List.length_drop]; omega) (by omega) (by omega) HS.out).mono ?_
      rintro E w1 ⟨rfl, rfl⟩
      go_wp2
      go_ret3
      exact ⟨_, 0, _, _, rfl, rfl, .inr ⟨rfl, rfl, rfl, fun t ht => HG.out t ht hm⟩, fun h => by simp at h⟩
    · have isb := hb.sub (a + n) (a + n + un) (by omega) (by omega)
      rw [show a + n + un - (a + n) = un by omega] at isb
      have hconv := isb.conv Try.underlying26 Try.underlying5 Try.underlying9
      have hg := cres_good (bs := bs.drop a) (most := most) (u := un) (n := n) (fun z hz => hby z (List.mem_of_mem_drop hz)) hR (by omega) (by rw [List.length_drop]; omega)
      rw [List.drop_drop] at hg
      generalize hbt : Om.byts ((bs.drop (a + n)).take un) = bt at *
      have HG := hide hg
      have HS := hide hS'
      have hs' : ¬ (bs.length : Int) - ((a : Int) + n) < un := by omega
      by_cases hcn : c1 = a + n
      · have hun : un = 0 := by omega
        subst hun
        have hbt0 : bt = [] := by rw [← hbt]; simp [Om.byts]
        subst hbt0
        have isz : Is .u8 w (.slice (some ⟨b1, o1, none⟩) 0 0) [] := ⟨by simp, .inr ⟨_, 0, rfl, by simp, by simp, by simp⟩⟩
        have hconv0 := isz.conv Try.underlying26 Try.underlying5 Try.underlying9
        rw [show Om.byts [] = [] from rfl] at hconv0
        have hS0 : SRes (bs.drop a) most 0 n 0 := by simpa using hS'
        have HS0 := hide hS0
        clear hS0 HS hS' hbd hdl hc1 hby hbt hg isb hb hconv isz hR h2
        subst hcn
        rw [show a + n - a = n by omega] at isub
        go_enter Try.func36, Try.ntmps36
        go_wp2_with fail
        refine (small_any _ (bs.drop a) most 0 n 0 _ isub (by rw [List.length_drop]; omega) (by omega) (by omega) HS0.out).mono ?_
        rintro E w1 ⟨rfl, rfl⟩
        go_wp2
        go_ret3
        exact ⟨⟨#[]⟩, n + 0, _, _, rfl, rfl, HG.out, fun _ => ⟨by omega, by omega⟩⟩
      · clear hS' hbd hdl hc1 hby hbt hg isb hb
        go_enter Try.func36, Try.ntmps36
        go_wp2_with fail
        refine (small_any _ (bs.drop a) most un n 0 _ isub (by rw [List.length_drop]; omega) (by omega) (by omega) HS.out).mono ?_
        rintro E w1 ⟨rfl, rfl⟩
        go_wp2
        go_ret3
        exact ⟨⟨bt.toArray⟩, n + un, _, _, rfl, rfl, HG.out, fun _ => ⟨by omega, by omega⟩⟩
  · have HG := hide (cres_bad hS' (by simp) hm)
    have HS := hide hS'
    clear hS' hR hcase hc1 hby
    by_cases hca : c1 = a
    · subst hca
      have e1 : bs.length = c1 := by omega
      have e2 : bs.drop c1 = [] := List.drop_eq_nil_of_le (by omega)
      have isz : Is .u8 w (.slice (some ⟨b1, o1, none⟩) 0 0) [] := ⟨by simp, .inr ⟨_, 0, rfl, by simp, by simp, by simp⟩⟩
      rw [e2] at HS
      have E1 := hide e1
      clear e2
      go_enter Try.func36, Try.ntmps36
      go_wp2_with fail
      refine (small_any _ [] most 0 0 5 _ isz (by simp) (by omega) (by omega) HS.out).mono ?_
      rintro E w1 ⟨rfl, rfl⟩
      go_wp2
      go_ret3
      exact ⟨_, 0, _, _, rfl, rfl, .inr ⟨rfl, rfl, rfl, HG.out⟩, fun h => by simp at h⟩
    · go_enter Try.func36, Try.ntmps36
      go_wp2_with fail
      refine (small_any _ (bs.drop a) most 0 0 5 _ isub (by rw [List.length_drop]; omega) (by omega) (by omega) HS.out).mono ?_
      rintro E w1 ⟨rfl, rfl⟩
      go_wp2
      go_ret3
      exact ⟨_, 0, _, _, rfl, rfl, .inr ⟨rfl, rfl, rfl, HG.out⟩, fun h => by simp at h⟩

theorem empty_of {s : ByteArray} (h : s.data.toList = []) : s = ⟨#[]⟩ := by
  obtain ⟨⟨l⟩⟩ := s
  simp at h
  rw [h]

set_option maxHeartbeats 1000000 in
theorem oread_any (vb : Value) (bs : List Int) (w : World) (hb : Is .u8 w vb bs) (hl : bs.length ≤ 140737488355328) :
    Calls Try.prog 11 #[vb] w fun E w' => ∃ (p : Bool) (k v : ByteArray) (n e : Int), E = .returned (.tuple #[opv p k v, .int .i64 n, .int .i64 e]) ∧ Om.ORes bs p k.data.toList v.data.toList n e ∧ Below w.heap.size w w' := by
  unfold opv
  have bel0 : ∀ cs, Below w.heap.size w (w.alloc (.cells cs 23)) := fun cs => (Below.refl _ _).alloc (Nat.le_refl _) _
  by_cases h0 : 0 < bs.length
  · have hbw := hb.byte 0
    obtain ⟨b1, o1, c1, rfl, hcap, hcm, hB1, hc1⟩ := hb.full h0
    have hb0 := hb.below (bel0 #[.bool false, .string ⟨#[]⟩, .string ⟨#[]⟩])
    have g0 := hc1 0 h0
    obtain ⟨q, rest, rfl⟩ : ∃ q rest, bs = q :: rest := by
      cases bs with
      | nil => simp at h0
      | cons q r => exact ⟨q, r, rfl⟩
    simp only [List.getD_cons_zero, Nat.add_zero] at g0 hbw
    have hlr : (q :: rest).length = rest.length + 1 := rfl
    by_cases hq : 1 < q
    · have HG := hide (Om.ores_kind (b := q) (bs := rest) (by omega) (by omega))
      clear hc1 hb hb0
      go_enter Try.func11, Try.ntmps11
      go_wp2
      refine bodyPost_ret (v := .tuple #[.agg #[.bool false, .string ⟨#[]⟩, .string ⟨#[]⟩], .int .i64 0, .int .i64 5]) (by simp [results, Try.results11, go_sem]) rfl ?_
      exact ⟨_, _, _, _, _, rfl, HG.out, bel0 _⟩
    · have HL := hide hlr
      clear hc1 hlr
      go_enter Try.func11, Try.ntmps11
      go_wp2_with fail
      refine (rcount_any _ (q :: rest) 1 16 _ hb0 hl h0 (by omega) (by omega)).mono ?_
      rintro E w1 ⟨s, n, d, e, rfl, rfl, hR, hd⟩
      rw [List.drop_one, List.tail_cons] at hR
      have ZERO : ∀ w', Below w.heap.size w w' → Om.ORes (q :: rest) false [] [] 0 5 → ∃ (p : Bool) (k v : ByteArray) (n e : Int), Ending.returned (.tuple #[.agg #[.bool false, .string ⟨#[]⟩, .string ⟨#[]⟩], .int .i64 0, .int .i64 5]) = .returned (.tuple #[.agg #[.bool p, .string k, .string v], .int .i64 n, .int .i64 e]) ∧ Om.ORes (q :: rest) p k.data.toList v.data.toList n e ∧ Below w.heap.size w w' := fun w' hb' h => ⟨_, _, _, _, _, rfl, h, hb'⟩
      have HZ := hide ZERO
      clear ZERO
      have he : e = 0 ∨ e = 5 := by
        rcases hR with ⟨h, _⟩ | ⟨h, _⟩
        · exact .inl h
        · exact .inr h
      rcases he with rfl | rfl
      · obtain ⟨hd1, hd2⟩ := hd rfl
        subst hd1
        clear hd
        rw [HL.out] at hd2
        by_cases hs : s.data.toList = []
        · have HG := hide (Om.ores_key (b := q) hR (.inr hs))
          have hs' : s.toList.isEmpty = true := by rw [Lib.toList_data, hs]; rfl
          clear hR hs
          go_wp2
          refine bodyPost_ret (v := .tuple #[.agg #[.bool false, .string ⟨#[]⟩, .string ⟨#[]⟩], .int .i64 0, .int .i64 5]) (by simp [results, Try.results11, go_sem]) rfl ?_
          exact HZ.out _ (bel0 _) HG.out
        · have hs' : s.toList.isEmpty = false := by rw [Lib.toList_data]; simpa using hs
          rcases (show q = 0 ∨ q = 1 by omega) with rfl | rfl
          · have HG := hide (Om.ores_del hR hs)
            clear hR hs HZ
            go_wp2
            refine bodyPost_ret (v := .tuple #[.agg #[.bool false, .string s, .string ⟨#[]⟩], .int .i64 ((1 + n : Nat) : Int), .int .i64 0]) (by simp [results, Try.results11, go_sem]) rfl ?_
            exact ⟨_, _, _, _, _, rfl, HG.out, bel0 _⟩
          · have HR := hide hR
            have HS := hide hs
            clear hR hs
            go_wp2_with fail
            refine (rcount_any _ (1 :: rest) (1 + n) 32 _ hb0 hl h0 (by simp; omega) (by omega)).mono ?_
            rintro E w1 ⟨t, m, d, e, rfl, rfl, hT, hd⟩
            rw [Nat.add_comm 1 n, List.drop_succ_cons] at hT
            have he : e = 0 ∨ e = 5 := by
              rcases hT with ⟨h, _⟩ | ⟨h, _⟩
              · exact .inl h
              · exact .inr h
            rcases he with rfl | rfl
            · obtain ⟨hd1, hd2⟩ := hd rfl
              subst hd1
              clear hd
              have HG := hide (Om.ores_put HR.out HS.out hT)
              clear hT HZ
              go_wp2
              refine bodyPost_ret (v := .tuple #[.agg #[.bool true, .string s, .string t], .int .i64 ((1 + n + m : Nat) : Int), .int .i64 0]) (by simp [results, Try.results11, go_sem]) rfl ?_
              exact ⟨_, _, _, _, _, rfl, HG.out, bel0 _⟩
            · have HG := hide (Om.ores_val HR.out hT (by simp))
              clear hT hd
              go_wp2
              refine bodyPost_ret (v := .tuple #[.agg #[.bool false, .string ⟨#[]⟩, .string ⟨#[]⟩], .int .i64 0, .int .i64 5]) (by simp [results, Try.results11, go_sem]) rfl ?_
              exact HZ.out _ (bel0 _) HG.out
      · have HG := hide (Om.ores_key (b := q) hR (.inl (by simp)))
        clear hR hd
        go_wp2
        refine bodyPost_ret (v := .tuple #[.agg #[.bool false, .string ⟨#[]⟩, .string ⟨#[]⟩], .int .i64 0, .int .i64 5]) (by simp [results, Try.results11, go_sem]) rfl ?_
        exact HZ.out _ (bel0 _) HG.out
  · have : bs = [] := List.eq_nil_of_length_eq_zero (by omega)
    subst this
    obtain ⟨ao, c, rfl⟩ := hb.bare
    clear hb hl h0
    go_enter Try.func11, Try.ntmps11
    go_wp2
    refine bodyPost_ret (v := .tuple #[.agg #[.bool false, .string ⟨#[]⟩, .string ⟨#[]⟩], .int .i64 0, .int .i64 5]) (by simp [results, Try.results11, go_sem]) rfl ?_
    exact ⟨_, _, _, _, _, rfl, Om.ores_nil, bel0 _⟩

end Go.Proofs.Ytaejecompbmhcaa
