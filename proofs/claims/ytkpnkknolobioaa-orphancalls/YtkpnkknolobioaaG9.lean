/- Texts of one layer, one behind the other. -/
import Derived.Test.YtkpnkknolobioaaG8
import Derived.Deep.RegionHeld3
import Derived.Test.YtkpnkknolobioaaG3
import Derived.Laws.BytesArg
import Derived.Test.YtkpnkknolobioaaG4
/- Lists of commits: the same, of the call's own, apart. -/
namespace Go.Proofs.Ytkpnkknolobioaa
open Go.RowKit
set_option linter.unusedVariables false

/-- Whether two lists of commits are the same. -/
def sameV : List Cm.Cv → List Cm.Cv → Bool
  | [], [] => true
  | c :: r, d :: s => sameC c.e c.n c.l d.e d.n d.l && sameV r s
  | _, _ => false

theorem sameC_iff {e n e' n' : Int} {l l' : List Bm.Ov} : sameC e n l e' n' l' = true ↔ e = e' ∧ n = n' ∧ l = l' := by
  simp [sameC, Bm.sameL_iff]

theorem sameV_iff : ∀ {r s : List Cm.Cv}, sameV r s = true ↔ r = s
  | [], [] => by simp [sameV]
  | [], _ :: _ => by simp [sameV]
  | _ :: _, [] => by simp [sameV]
  | ⟨e, n, l⟩ :: r, ⟨e', n', l'⟩ :: s => by
    simp only [sameV, Bool.and_eq_true, sameC_iff, sameV_iff (r := r) (s := s)]
    simp [and_assoc]

theorem sameV_no {r s : List Cm.Cv} (h : r ≠ s) : sameV r s = false := by
  cases hs : sameV r s
  · rfl
  · exact absurd (sameV_iff.1 hs) h

theorem sameV_self (r : List Cm.Cv) : sameV r r = true := sameV_iff.2 rfl

theorem cvs_length (r : List Cw) : (cvs r).length = r.length := by unfold cvs; rw [List.length_map]

/-- A list's cells, where there are any. -/
theorem isC_cells {w : World} {v : Value} {r : List Cw} (h : IsC w v r) : 0 < r.length → ∃ b1 o1 c1, v = .slice (some ⟨b1, o1, none⟩) r.length c1 ∧ b1 < w.heap.size ∧ ∀ i c, r[i]? = some c → w.cell? ⟨b1, o1 + i * 3, none⟩ = some (.int .i64 c.e) ∧ w.cell? ⟨b1, o1 + i * 3 + 1, none⟩ = some (.int .i64 c.n) ∧ w.cell? ⟨b1, o1 + i * 3 + 2, none⟩ = some c.v := by
  intro hp
  obtain ⟨b1, o1, c1, hv, _, _, hB, hc⟩ := h.1.full hp
  exact ⟨b1, o1, c1, hv, hB, hc⟩

theorem cvs_get (r : List Cw) (k : Nat) : (cvs r)[k]? = (r[k]?).map Cw.c := by unfold cvs; rw [List.getElem?_map]

set_option maxHeartbeats 1000000 in
theorem sameCs_any (va vb : Value) (r s : List Cw) (w : World) (ha : IsC w va r) (hb : IsC w vb s) (fa : FitC r) (fb : FitC s) (hl : r.length ≤ 140737488355328) (hl' : s.length ≤ 140737488355328) :
    Calls Try.prog 46 #[va, vb] w fun E w' => E = .returned (.bool (sameV (cvs r) (cvs s))) ∧ Below w.heap.size w w' := by
  obtain ⟨ans, hans⟩ : ∃ x, sameV (cvs r) (cvs s) = x := ⟨_, rfl⟩
  rw [hans]
  have HA := hide hans
  clear hans
  obtain ⟨a1, p1, hva, _, _⟩ := ha.1.shape
  obtain ⟨a2, p2, hvb, _, _⟩ := hb.1.shape
  by_cases hne : r.length = s.length
  · have C1 := hide (isC_cells ha)
    have C2 := hide (isC_cells hb)
    have I1 := hide ha.2
    have I2 := hide hb.2
    have F1 := hide fa
    have F2 := hide fb
    have HL := hide hne
    have ht : ((r.length : Int) != (s.length : Int)) = false := by simp; omega
    subst hva hvb
    generalize hn : r.length = n at *
    generalize hm : s.length = m at *
    have HN := hide hn
    have HM := hide hm
    clear ha hb fa fb hne hn hm
    go_enter Try.func46, Try.ntmps46
    go_wp2
    go_loopw [5] (fun i wr => ∃ (k : Nat), k ≤ n ∧ i = .int .i64 k ∧ Hid ((cvs r).take k = (cvs s).take k) ∧ Below w.heap.size w wr) (fun i _ => n - (intOf i).toNat)
    case atStart => exact ⟨0, by omega, rfl, hide rfl, Below.refl _ _⟩
    case round =>
      obtain ⟨k, hk, rfl, HT, bel⟩ := hrel
      have sz := bel.size
      by_cases hlt : k < n
      · obtain ⟨b1, o1, c1, hv1, hB1, hc1⟩ := C1.out (by have := HN.out; omega)
        obtain ⟨b2, o2, c2, hv2, hB2, hc2⟩ := C2.out (by have := HM.out; have := HL.out; omega)
        simp only [Value.slice.injEq, true_and] at hv1 hv2
        obtain ⟨rfl, rfl⟩ := hv1
        obtain ⟨rfl, rfl⟩ := hv2
        have hkr : k < r.length := by have := HN.out; omega
        have hks : k < s.length := by have := HM.out; have := HL.out; omega
        obtain ⟨c, hc⟩ : ∃ c, r[k]? = some c := ⟨r[k], List.getElem?_eq_getElem hkr⟩
        obtain ⟨d, hd⟩ : ∃ d, s[k]? = some d := ⟨s[k], List.getElem?_eq_getElem hks⟩
        obtain ⟨x0, x1, x2⟩ := row_at hc1 bel hB1 hc
        obtain ⟨y0, y1, y2⟩ := row_at hc2 bel hB2 hd
        have i1 := (I1.out c (List.mem_of_getElem? hc)).1.below bel
        have i2 := (I2.out d (List.mem_of_getElem? hd)).1.below bel
        have l1 := (F1.out c (List.mem_of_getElem? hc)).2
        have l2 := (F2.out d (List.mem_of_getElem? hd)).2
        have hlt' : (k : Int) < n := by omega
        have hlt2 : (k : Int) < m := by have := HL.out; omega
        have hB1' : b1 < wr.heap.size := by omega
        have hB2' : b2 < wr.heap.size := by omega
        have X := hide (fun W (h1 : IsO W c.v c.l) (h2 : IsO W d.v d.l) => csameK_any c.e c.n _ c.l d.e d.n _ d.l W h1 h2 (by omega) (by omega))
        have HC := hide hc
        have HD := hide hd
        obtain ⟨sm, hsm⟩ : ∃ x, sameC c.e c.n c.l d.e d.n d.l = x := ⟨_, rfl⟩
        rw [hsm] at X
        have HSM := hide hsm
        clear hc hd hc1 hc2 l1 l2 hsm
        cases sm
        · have hfo := HA.out
          rw [sameV_no fun e => by
            have h1 : (cvs r)[k]? = some c.c := by rw [cvs_get, HC.out]; rfl
            rw [e, cvs_get, HD.out] at h1
            have h2 : d.c = c.c := by simpa using h1
            obtain ⟨q1, q2, q3⟩ := cw_ext h2
            have := HSM.out
            rw [sameC_iff.2 ⟨q1.symm, q2.symm, q3.symm⟩] at this
            simp at this] at hfo
          subst hfo
          go_wp2_with fail
          go_region_held3 (fun w' => (w'.cell? ⟨b1, o1 + k * 3, none⟩ = some (.int .i64 c.e) ∧ w'.cell? ⟨b1, o1 + k * 3 + 1, none⟩ = some (.int .i64 c.n) ∧ w'.cell? ⟨b1, o1 + k * 3 + 2, none⟩ = some c.v) ∧ (w'.cell? ⟨b2, o2 + k * 3, none⟩ = some (.int .i64 d.e) ∧ w'.cell? ⟨b2, o2 + k * 3 + 1, none⟩ = some (.int .i64 d.n) ∧ w'.cell? ⟨b2, o2 + k * 3 + 2, none⟩ = some d.v)) (first | exact ⟨⟨x0, x1, x2⟩, ⟨y0, y1, y2⟩⟩ | exact ⟨⟨g0, g1, g2⟩, ⟨h0, h1, h2⟩⟩ | go_keep)
            (first
            | (go_at_call 48; refine (X.out _ (i1.drewN 1) (i2.drewN 1)).mono ?_; rintro E w3 ⟨rfl, bel3'⟩; have bel3 : Below wr.heap.size wr w3 := ((Below.refl _ _).drew).trans bel3'; have g0 := (bel3.cell (p := ⟨b1, o1 + k * 3, none⟩) hB1').trans x0; have g1 := (bel3.cell (p := ⟨b1, o1 + k * 3 + 1, none⟩) hB1').trans x1; have g2 := (bel3.cell (p := ⟨b1, o1 + k * 3 + 2, none⟩) hB1').trans x2; have h0 := (bel3.cell (p := ⟨b2, o2 + k * 3, none⟩) hB2').trans y0; have h1 := (bel3.cell (p := ⟨b2, o2 + k * 3 + 1, none⟩) hB2').trans y1; have h2 := (bel3.cell (p := ⟨b2, o2 + k * 3 + 2, none⟩) hB2').trans y2; clear bel3'))
          have belR := bel.trans (bel3.mono (by omega))
          go_wp2
          go_ret
          exact ⟨rfl, belR⟩
        · have HT2 : Hid ((cvs r).take (k + 1) = (cvs s).take (k + 1)) := hide (by
            obtain ⟨q1, q2, q3⟩ := sameC_iff.1 HSM.out
            rw [List.take_add_one, List.take_add_one, HT.out, cvs_get, cvs_get, HC.out, HD.out]
            simp [Cw.c, q1, q2, q3])
          go_wp2_with fail
          go_region_held3 (fun w' => (w'.cell? ⟨b1, o1 + k * 3, none⟩ = some (.int .i64 c.e) ∧ w'.cell? ⟨b1, o1 + k * 3 + 1, none⟩ = some (.int .i64 c.n) ∧ w'.cell? ⟨b1, o1 + k * 3 + 2, none⟩ = some c.v) ∧ (w'.cell? ⟨b2, o2 + k * 3, none⟩ = some (.int .i64 d.e) ∧ w'.cell? ⟨b2, o2 + k * 3 + 1, none⟩ = some (.int .i64 d.n) ∧ w'.cell? ⟨b2, o2 + k * 3 + 2, none⟩ = some d.v)) (first | exact ⟨⟨x0, x1, x2⟩, ⟨y0, y1, y2⟩⟩ | exact ⟨⟨g0, g1, g2⟩, ⟨h0, h1, h2⟩⟩ | go_keep)
            (first
            | (go_at_call 48; refine (X.out _ (i1.drewN 1) (i2.drewN 1)).mono ?_; rintro E w3 ⟨rfl, bel3'⟩; have bel3 : Below wr.heap.size wr w3 := ((Below.refl _ _).drew).trans bel3'; have g0 := (bel3.cell (p := ⟨b1, o1 + k * 3, none⟩) hB1').trans x0; have g1 := (bel3.cell (p := ⟨b1, o1 + k * 3 + 1, none⟩) hB1').trans x1; have g2 := (bel3.cell (p := ⟨b1, o1 + k * 3 + 2, none⟩) hB1').trans x2; have h0 := (bel3.cell (p := ⟨b2, o2 + k * 3, none⟩) hB2').trans y0; have h1 := (bel3.cell (p := ⟨b2, o2 + k * 3 + 1, none⟩) hB2').trans y1; have h2 := (bel3.cell (p := ⟨b2, o2 + k * 3 + 2, none⟩) hB2').trans y2; clear bel3'))
          have belR := bel.trans (bel3.mono (by omega))
          clear x0 x1 x2 y0 y1 y2 g0 g1 g2 h0 h1 h2 i1 i2 bel3 bel
          go_wp2
          go_roundw
          case rel => exact ⟨k + 1, by omega, by go_num, HT2, belR⟩
          case measure => simp [intOf]; omega
      · have hlt' : ¬ (k : Int) < n := by omega
        have hfo := HA.out
        rw [sameV_iff.2 (by
          have h1 := HT.out
          rw [List.take_of_length_le (by rw [cvs_length, HN.out]; omega), List.take_of_length_le (by rw [cvs_length, HM.out]; have := HL.out; omega)] at h1
          exact h1)] at hfo
        subst hfo
        clear HA
        go_wp2
        go_ret
        exact ⟨rfl, bel⟩
  · have ht : ((r.length : Int) != (s.length : Int)) = true := by simp; omega
    have hfo := HA.out
    rw [sameV_no fun e => hne (by rw [← cvs_length r, ← cvs_length s, e])] at hfo
    subst hfo hva hvb
    clear hne HA
    go_enter Try.func46, Try.ntmps46
    go_wp2
    go_ret
    exact ⟨rfl, Below.refl _ _⟩

/-- Commits whose ops lie apart. -/
def ApC (cs : List Cw) : Prop := ∀ (i j : Nat) (c d : Cw), i ≠ j → cs[i]? = some c → cs[j]? = some d → c.v.ownBlock = none ∨ c.v.ownBlock ≠ d.v.ownBlock

theorem OwnR.rebase {e base base' : Nat} {w : World} {v : Value} {l : List Cw} (h : OwnR e base w v l) (hb : base' ≤ base) : OwnR e base' w v l := by
  refine ⟨h.1, ?_⟩
  rcases h.2 with h | ⟨g, cap, cur, hv, h1, r⟩
  · exact .inl h
  · exact .inr ⟨g, cap, cur, hv, by omega, r⟩

theorem row_out {e base size n : Nat} {w w' : World} {v : Value} {xs : List Value} {F : Nat → Prop} (h : w.ownsRow base e size v n xs) (ho : Out F w w') (hF : ∀ i, F i → i < base) : w'.ownsRow base e size v n xs :=
  row_agree h fun g hg => ho.block g (World.ownsRow.lt h g hg).2 fun hf => by have := hF g hf; have := (World.ownsRow.lt h g hg).1; omega

theorem row_rebase {e base base' size n : Nat} {w : World} {v : Value} {xs : List Value} (h : w.ownsRow base e size v n xs) (hb : base' ≤ base) : w.ownsRow base' e size v n xs := by
  refine ⟨h.1, ?_⟩
  rcases h.2 with k | ⟨g, cap, cur, hv, h1, r⟩
  · exact .inl k
  · exact .inr ⟨g, cap, cur, hv, Nat.le_trans hb h1, r⟩

theorem apc_snoc {cs : List Cw} {c : Cw} {N : Nat} (h : ApC cs) (h1 : ∀ d ∈ cs, ∀ b, d.v.ownBlock = some b → b < N) (h2 : ∀ b, c.v.ownBlock = some b → N ≤ b) : ApC (cs ++ [c]) := by
  intro i j x y hij hx hy
  have hix := (List.getElem?_eq_some_iff.1 hx).1
  have hjx := (List.getElem?_eq_some_iff.1 hy).1
  rw [List.length_append, List.length_singleton] at hix hjx
  have key : ∀ u v : Value, (∀ b d, u.ownBlock = some b → v.ownBlock = some d → b ≠ d) → u.ownBlock = none ∨ u.ownBlock ≠ v.ownBlock := by
    intro u v h
    cases hu : u.ownBlock with
    | none => exact .inl rfl
    | some b => exact .inr fun e => h b b hu e.symm rfl
  by_cases hi : i < cs.length
  · rw [List.getElem?_append_left hi] at hx
    by_cases hj : j < cs.length
    · rw [List.getElem?_append_left hj] at hy
      exact h i j x y hij hx hy
    · have : j = cs.length := by omega
      subst this
      simp at hy
      subst hy
      exact key _ _ fun b d hb hd => by have := h1 x (List.mem_of_getElem? hx) b hb; have := h2 d hd; omega
  · have : i = cs.length := by omega
    subst this
    simp at hx
    subst hx
    rw [List.getElem?_append_left (by omega)] at hy
    exact key _ _ fun b d hb hd => by have := h2 b hb; have := h1 y (List.mem_of_getElem? hy) d hd; omega

end Go.Proofs.Ytkpnkknolobioaa

/- The contracts of op's readCounted and Read. -/
namespace Go.Proofs.Ytkpnkknolobioaa
open Go.RowKit
set_option linter.unusedVariables false

/-- 'string(b)'. -/
theorem Is.conv {w : World} {v : Value} {zs : List Int} (h : Is .u8 w v zs) {P : Program} {src e dst : TypeId} (hs : P.underlying src = some (.slice e)) (he : P.underlying e = some (.int .u8)) (hd : P.underlying dst = some .string) :
    (convert src dst v).run P w = .ok (.string ⟨(Om.byts zs).toArray⟩) w := by
  by_cases hz : 0 < zs.length
  · obtain ⟨b, o, c, rfl, _, _, _, hc⟩ := h.full hz
    exact run_convert_bytes_arg w src e hs he b o zs.length c zs rfl hc dst hd
  · have : zs = [] := List.eq_nil_of_length_eq_zero (by omega)
    subst this
    obtain ⟨ao, c, rfl⟩ := h.bare
    cases ao with
    | none => exact run_convert_bytes_nil w src e hs he 0 c dst hd
    | some ad =>
      rw [run_convert_bytes_string w src dst e _ 0 c hs he hd, run_bytesToString w ad 0 c [] (by have := run_loadCells_list (P := P) w ad [] (by simp); simpa using this)]
      rfl

theorem Is.bytes {w : World} {v : Value} {zs : List Int} (h : Is .u8 w v zs) : ∀ z ∈ zs, 0 ≤ z ∧ z < 256 := by
  intro z hz
  obtain ⟨i, hi, rfl⟩ := List.getElem_of_mem hz
  have := h.byte i
  simpa [List.getD, hi] using this

theorem cres_bad {bs : List Int} {most : Nat} {u i g : Int} (hS : SRes bs most u i g) (hg : g ≠ 0) (hm : most ≤ 64) : ∀ t : List UInt8, t.length ≤ most → ¬ Om.cnt t <+: bs := by
  intro t ht hp
  have hp1 : Vm.enc t.length <+: bs := (List.prefix_append _ _).trans hp
  rcases hS with ⟨_, _, _, h⟩ | ⟨_, _, _, x, n, e, hR, hc⟩
  · exact hg h
  · have := Vm.res_good hR (u := t.length) (by omega) hp1
    omega

theorem cres_short {bs : List Int} {most : Nat} {u i : Int} (hR : Vm.Res bs u i 0) (hs : (bs.length : Int) - i < u) : ∀ t : List UInt8, t.length ≤ most → most ≤ 64 → ¬ Om.cnt t <+: bs := by
  intro t ht hm hp
  have hp1 : Vm.enc t.length <+: bs := (List.prefix_append _ _).trans hp
  have := Vm.res_good hR (u := t.length) (by omega) hp1
  have h2 := hp.length_le
  rw [Om.cnt_len] at h2
  omega

theorem cres_good {bs : List Int} {most u n : Nat} (hb : ∀ z ∈ bs, 0 ≤ z ∧ z < 256) (hR : Vm.Res bs u n 0) (hu : u ≤ most) (hs : n + u ≤ bs.length) :
    Om.CRes bs most (Om.byts ((bs.drop n).take u)) (n + u) 0 := by
  have hl : (Om.byts ((bs.drop n).take u)).length = u := by rw [Om.byts_len, List.length_take, List.length_drop]; omega
  rcases hR with ⟨x, _, hp, h1, h2, _⟩ | ⟨_, _, _, h⟩
  · have hx : x = u := by omega
    have hn : n = Vm.sz u := by rw [hx] at h2; omega
    subst hx
    refine .inl ⟨rfl, by rw [hl]; exact hu, ?_, ?_⟩
    · unfold Om.cnt
      rw [hl, Om.ints_byts (fun z hz => hb z (List.mem_of_mem_drop (List.mem_of_mem_take hz)))]
      obtain ⟨r, hr⟩ := hp
      have hln : (Vm.enc x).length = n := hn.symm
      have : bs.drop n = r := by rw [← hr, ← hln]; simp
      rw [this, ← hr]
      exact (List.prefix_append_right_inj _).2 (List.take_prefix _ _)
    · rw [Om.cnt_len, hl, hn]
  · simp at h

theorem empty_of {s : ByteArray} (h : s.data.toList = []) : s = ⟨#[]⟩ := by
  obtain ⟨⟨l⟩⟩ := s
  simp at h
  rw [h]

end Go.Proofs.Ytkpnkknolobioaa

/- The contracts of the methods of batch's reader. -/
namespace Go.Proofs.Ytkpnkknolobioaa
open Go.RowKit
set_option linter.unusedVariables false
set_option maxRecDepth 100000


theorem wrap64_small (z : Int) (h0 : -9223372036854775808 ≤ z) (h1 : z < 9223372036854775808) : IntKind.i64.wrap z = z := by
  unfold IntKind.wrap
  simp [IntKind.bits, IntKind.signed]
  omega

/-- The error's number. -/
def ei (bad : Bool) : Int := if bad then 5 else 0

/-- A reader in block g: of the bytes bs (they lie where w0 has them), at a place, bad or not. -/
def Brd (w0 w : World) (g : Nat) (vb : Value) (bs : List Int) (a : Nat) (bad : Bool) : Prop :=
  Is .u8 w0 vb bs ∧ w0.heap.size ≤ g ∧ Below w0.heap.size w0 w ∧ w.heap[g]? = some (.cells #[vb, .int .i64 a, .int .i64 (ei bad)] 138 (0, 0)) ∧ a ≤ bs.length

section
variable {w0 w w' : World} {g a : Nat} {vb : Value} {bs : List Int} {bad : Bool}

theorem Brd.lt (h : Brd w0 w g vb bs a bad) : g < w.heap.size := blk_lt h.2.2.2.1
theorem Brd.is (h : Brd w0 w g vb bs a bad) : Is .u8 w vb bs := h.1.below h.2.2.1
theorem Brd.below (h : Brd w0 w g vb bs a bad) (hb : Below w.heap.size w w') : Brd w0 w' g vb bs a bad :=
  ⟨h.1, h.2.1, h.2.2.1.trans (hb.mono h.2.2.1.size), (hb.block g h.lt).trans h.2.2.2.1, h.2.2.2.2⟩
theorem Brd.grown (h : Brd w0 w g vb bs a bad) {row : Nat} (hb : w.grownBy w' (some row)) (hr : w0.heap.size ≤ row) (hne : row ≠ g) : Brd w0 w' g vb bs a bad :=
  ⟨h.1, h.2.1, h.2.2.1.grown hb h.2.2.1.size (fun k hk => by simp at hk; omega), (hb.block g h.lt (by simp; omega)).trans h.2.2.2.1, h.2.2.2.2⟩
theorem Brd.cell0 (h : Brd w0 w g vb bs a bad) : w.cell? ⟨g, 0, none⟩ = some vb := blk_cell h.2.2.2.1 0 rfl
theorem Brd.cell1 (h : Brd w0 w g vb bs a bad) : w.cell? ⟨g, 1, none⟩ = some (.int .i64 a) := blk_cell h.2.2.2.1 1 rfl
theorem Brd.cell2 (h : Brd w0 w g vb bs a bad) : w.cell? ⟨g, 2, none⟩ = some (.int .i64 (ei bad)) := blk_cell h.2.2.2.1 2 rfl
theorem Brd.good (h : Brd w0 w g vb bs a false) : w.cell? ⟨g, 2, none⟩ = some (.int .i64 0) := h.cell2
theorem Brd.evil (h : Brd w0 w g vb bs a true) : w.cell? ⟨g, 2, none⟩ = some (.int .i64 5) := h.cell2
theorem Brd.froz (h : Brd w0 w g vb bs a bad) (j : Nat) : w.frozen? ⟨g, j, none⟩ = false := blk_froz h.2.2.2.1 j
theorem Brd.put1 (h : Brd w0 w g vb bs a bad) (a' : Nat) (ha : a' ≤ bs.length) : Brd w0 (w.setCell ⟨g, 1, none⟩ (.int .i64 a')) g vb bs a' bad :=
  ⟨h.1, h.2.1, h.2.2.1.setCell (p := ⟨g, 1, none⟩) h.2.1 _, by rw [set_cells h.2.2.2.1]; rfl, ha⟩
theorem Brd.put2 (h : Brd w0 w g vb bs a bad) (bad' : Bool) : Brd w0 (w.setCell ⟨g, 2, none⟩ (.int .i64 (ei bad'))) g vb bs a bad' :=
  ⟨h.1, h.2.1, h.2.2.1.setCell (p := ⟨g, 2, none⟩) h.2.1 _, by rw [set_cells h.2.2.2.1]; rfl, h.2.2.2.2⟩

end

theorem small_q (vb : Value) (bs : List Int) (most u i g : Int) (w : World) (hb : Is .u8 w vb bs) (hl : bs.length ≤ 140737488355328) (hm : most < 9223372036854775808) (hm' : -9223372036854775808 ≤ most) (hS : SRes bs most u i g) :
    Calls Try.prog 102 #[vb, .int .i64 most] w fun E w' => E = .returned (.tuple #[.int .i64 u, .int .i64 i, .int .i64 g]) ∧ ∃ m, w' = w.drewN m :=
  (small_any vb bs most u i g w hb (by omega) hm hm' hS).mono (by rintro E w' ⟨rfl, rfl⟩; exact ⟨rfl, 0, rfl⟩)

set_option maxHeartbeats 400000 in
theorem bnum_any (w0 w : World) (g : Nat) (vb : Value) (bs : List Int) (a : Nat) (bad : Bool) (most : Nat) (h : Brd w0 w g vb bs a bad) (hl : bs.length ≤ 140737488355328) (hm : most < 9223372036854775808) :
    Calls Try.prog 122 #[.pointer (some ⟨g, 0, none⟩), .int .i64 most] w fun E w' => ∃ (u a' : Nat) (bad' : Bool), E = .returned (.int .i64 u) ∧ Brd w0 w' g vb bs a' bad' ∧ w.grownBy w' (some g) ∧ Bm.SS bs most a bad u a' bad' := by
  have c0 := h.cell0
  have c1 := h.cell1
  have f1 := h.froz 1
  have f2 := h.froz 2
  have ha := h.2.2.2.2
  cases bad
  · have c2 := h.good
    obtain ⟨vs, hsl, isl⟩ := h.is.slice_l Try.elemP Try.sizeP a ha
    obtain ⟨u, i, e, hS⟩ := sres_is (bs.drop a) most
    have hdl : (bs.drop a).length = bs.length - a := by rw [List.length_drop]
    rcases hS with ⟨hR, h1, h2, he⟩ | ⟨hu, hi, he, x, n, f, hR, hcase⟩
    · have hbd := Vm.res_bounds hR
      obtain ⟨un, rfl⟩ : ∃ un : Nat, u = un := ⟨u.toNat, by omega⟩
      obtain ⟨n, rfl⟩ : ∃ n : Nat, i = n := ⟨i.toNat, by omega⟩
      have hG : Bm.SS bs most a false un (a + n) false := by
        rcases hR with ⟨x, hx, hp, h3, h4, _⟩ | ⟨_, _, _, h5⟩
        · have : x = un := by omega
          subst this
          exact .inr (.inr ⟨rfl, rfl, by omega, hp, by omega⟩)
        · simp at h5
      have hS : SRes (bs.drop a) most un n 0 := .inl ⟨hR, h1, h2, rfl⟩
      have HG := hide hG
      have HS := hide hS
      have HH := hide h
      have hn1 : a + n ≤ bs.length := by omega
      have hn2 : n ≤ 10 := by omega
      clear hS hG hR hbd h he h1 h2
      go_enter Try.func122, Try.ntmps122
      go_wp2_with fail
      go_quiet ((go_at_call 102; refine Calls.quiet_of (small_q _ (bs.drop a) most un n 0 _ (isl.drewN _) (by omega) (by omega) (by omega) HS.out)))
      have r1 := HH.out.below (below_drewN (Below.refl _ _) nq)
      have R3 := hide ((r1.put1 (a + n) hn1).put2 false)
      clear r1 isl hsl
      go_wp2
      go_ret
      exact ⟨un, a + n, false, rfl, R3.out, grown_trans (grown_trans (grown_drewN _ _ _) (grown_setCell _ _ _)) (grown_setCell _ _ _), HG.out⟩
    · have hG : Bm.SS bs most a false 0 a true := by
        refine .inr (.inl ⟨rfl, rfl, rfl, rfl, fun y hy hp => ?_⟩)
        have := Vm.res_good hR (u := y) (by omega) hp
        omega
      have hS : SRes (bs.drop a) most 0 0 5 := .inr ⟨rfl, rfl, rfl, x, n, f, hR, hcase⟩
      have HG := hide hG
      have HS := hide hS
      have HH := hide h
      clear hS hG hR h he hcase hu hi
      go_enter Try.func122, Try.ntmps122
      go_wp2_with fail
      go_quiet ((go_at_call 102; refine Calls.quiet_of (small_q _ (bs.drop a) most 0 0 5 _ (isl.drewN _) (by omega) (by omega) (by omega) HS.out)))
      have r1 := HH.out.below (below_drewN (Below.refl _ _) nq)
      have R3 := hide ((r1.put1 a ha).put2 true)
      clear r1 isl hsl
      go_wp2
      go_ret
      exact ⟨0, a, true, rfl, R3.out, grown_trans (grown_trans (grown_drewN _ _ _) (grown_setCell _ _ _)) (grown_setCell _ _ _), HG.out⟩
  · have c2 := h.evil
    have HH := hide h
    clear h
    go_enter Try.func122, Try.ntmps122
    go_wp2
    go_ret
    exact ⟨0, a, true, rfl, HH.out, World.grownBy.refl _ _, .inl ⟨rfl, rfl, rfl, rfl⟩⟩

set_option maxHeartbeats 400000 in
theorem btext_any (w0 w : World) (g : Nat) (vb : Value) (bs : List Int) (a : Nat) (bad : Bool) (n : Nat) (h : Brd w0 w g vb bs a bad) (hl : bs.length ≤ 140737488355328) (hm : n < 4611686018427387904) :
    Calls Try.prog 125 #[.pointer (some ⟨g, 0, none⟩), .int .i64 n] w fun E w' => ∃ (s : ByteArray) (zs : List Int) (a' : Nat) (bad' : Bool), E = .returned (.string s) ∧ s.data.toList = Om.byts zs ∧ Brd w0 w' g vb bs a' bad' ∧ w.grownBy w' (some g) ∧ Bm.BS bs n a bad zs a' bad' := by
  have c0 := h.cell0
  have c1 := h.cell1
  have f1 := h.froz 1
  have f2 := h.froz 2
  have ha := h.2.2.2.2
  have hlen := h.is.len_run Try.elemP
  cases bad
  · have c2 := h.good
    by_cases hn : n ≤ bs.length - a
    · obtain ⟨vs, hsl, isl⟩ := h.is.slice_lh Try.elemP Try.sizeP a (a + n) (by omega) (by omega)
      rw [show a + n - a = n by omega] at isl
      have hsl2 : ∀ wx, (Instr.slice 25 vb (some (.int .i64 (a : Int))) (some (.int .i64 ((a : Int) + (n : Int)))) none).run Try.prog wx = .ok vs wx := by simpa using hsl
      have hwr : IntKind.i64.wrap ((a : Int) + (n : Int)) = (a : Int) + n := wrap64_small _ (by omega) (by omega)
      have hconv := fun m => (isl.drewN m).conv Try.underlying25 Try.underlying5 Try.underlying9
      clear hsl
      have hge : ¬ (bs.length : Int) - a < n := by omega
      have HH := hide h
      clear h
      go_enter Try.func125, Try.ntmps125
      go_wp2_with fail
      go_quiet (fail)
      go_wp2_with fail
      generalize nq = n1
      have hconv2 := fun m => hconv (n1 + m)
      go_quiet (fail)
      have r1 := HH.out.below (below_drewN (Below.refl _ _) (n1 + nq))
      have k1 := r1.cell1
      have g1 := r1.froz 1
      have R1 := hide r1
      clear r1 hconv hconv2 isl hsl2
      go_wp2
      go_ret
      exact ⟨_, (bs.drop a).take n, a + n, false, rfl, by simp, R1.out.put1 (a + n) (by omega), grown_trans (grown_drewN _ _ _) (grown_setCell _ _ _), .inr ⟨rfl, hn, rfl, rfl, rfl⟩⟩
    · have hge : (bs.length : Int) - a < n := by omega
      have HH := hide h
      clear h
      go_enter Try.func125, Try.ntmps125
      go_wp2_with fail
      go_quiet (fail)
      go_wp2
      go_ret
      exact ⟨_, [], a, true, rfl, rfl, (HH.out.below (below_drewN (Below.refl _ _) nq)).put2 true, grown_trans (grown_drewN _ _ _) (grown_setCell _ _ _), .inl ⟨.inr (by omega), rfl, rfl, rfl⟩⟩
  · have c2 := h.evil
    have HH := hide h
    clear h
    go_enter Try.func125, Try.ntmps125
    go_wp2
    go_ret
    exact ⟨_, [], a, true, rfl, rfl, HH.out, World.grownBy.refl _ _, .inl ⟨.inl rfl, rfl, rfl, rfl⟩⟩

theorem Try.enters125 : ∀ args w, (callFunc 125 args).run Try.prog w = .ok (.enter 125 args) w := enters_of Try.func125 (by kernel_rfl) rfl

theorem cat_data (a b : ByteArray) : (a ++ b).data.toList = a.data.toList ++ b.data.toList := by simp

theorem cat_fits {bs zs : List Int} {n sh a a' : Nat} {bad bad' : Bool} {s : ByteArray} (hs : s.data.toList = Om.byts zs) (h : Bm.BS bs n a bad zs a' bad') (hn : n ≤ 16 - sh) (hsh : sh ≤ 16) : ¬ 9223372036854775807 < sh + s.size := by
  have := Bm.bs_le h
  have e := congrArg List.length hs
  rw [Om.byts_len, ← Lib.size_eq] at e
  omega

set_option maxHeartbeats 1000000 in
theorem bkey_any (w0 w : World) (g : Nat) (vb : Value) (bs : List Int) (a : Nat) (bad : Bool) (ah : ByteArray) (h : Brd w0 w g vb bs a bad) (hl : bs.length ≤ 140737488355328) (hah : ah.size ≤ 16) :
    Calls Try.prog 124 #[.pointer (some ⟨g, 0, none⟩), .string ah] w fun E w' => ∃ (k : ByteArray) (a' : Nat) (bad' : Bool), E = .returned (.string k) ∧ Brd w0 w' g vb bs a' bad' ∧ w.grownBy w' (some g) ∧ Bm.KS bs a bad ah.data.toList k.data.toList a' bad' := by
  have hal : ah.data.toList.length = ah.size := (Lib.size_eq ah).symm
  go_enter Try.func124, Try.ntmps124
  go_wp2_with fail
  refine (bnum_any w0 w g vb bs a bad ah.size h hl (by omega)).mono ?_
  rintro E w1 ⟨sh, a1, bad1, rfl, r1, gr1, s1⟩
  have hsh := Bm.ss_le s1
  have hsub : (16 : Int) - sh = ((16 - sh : Nat) : Int) := by omega
  have S1 := hide s1
  clear s1 h
  go_wp2_with fail
  refine (bnum_any w0 w1 g vb bs a1 bad1 (16 - sh) r1 hl (by omega)).mono ?_
  rintro E w2 ⟨n, a2, bad2, rfl, r2, gr2, s2⟩
  have hn := Bm.ss_le s2
  have S2 := hide s2
  have R2 := hide r2
  clear s2 r1 r2
  have X : Hid (∀ m, Calls Try.prog 125 #[.pointer (some ⟨g, 0, none⟩), .int .i64 n] (w2.drewN m) fun E w' => ∃ v, E = .returned v ∧ ∃ (s : ByteArray) (zs : List Int) (a' : Nat) (bad' : Bool), v = .string s ∧ s.data.toList = Om.byts zs ∧ Brd w0 w' g vb bs a' bad' ∧ (w2.drewN m).grownBy w' (some g) ∧ Bm.BS bs n a2 bad2 zs a' bad') :=
    hide fun m => (btext_any w0 (w2.drewN m) g vb bs a2 bad2 n (R2.out.below (below_drewN (Below.refl _ _) m)) hl (by omega)).mono (by rintro E w' ⟨s, zs, a', bad', rfl, h⟩; exact ⟨_, rfl, s, zs, a', bad', rfl, h⟩)
  go_wp2_with fail
  go_region_law (refine call_step rfl 125 #[.tmp 19, .tmp 20] #[140, 3] rfl Try.enters125 #[.pointer (some ⟨g, 0, none⟩), .int .i64 n] (by simp [Act.eval, Act.put]) (X.out _) ?_; rintro vv w3 ⟨s, zs, a3, bad3, rfl, hs, r3, gr3, s3⟩; have hss := cat_fits hs s3 hn (by omega))
  all_goals
    have hsz : s.size ≤ 16 := by
      have := Bm.bs_le s3
      have e := congrArg List.length hs
      rw [Om.byts_len, ← Lib.size_eq] at e
      omega
    have hdat : (ah.extract 0 sh ++ s).data.toList = ah.data.toList.take sh ++ Om.byts zs := by rw [← hs]; simp
    have hksz : (ah.extract 0 sh ++ s).size ≤ 32 := by rw [Lib.size_eq, hdat, List.length_append, ← hs, ← Lib.size_eq, List.length_take]; omega
    have gr : w.grownBy w3 (some g) := grown_trans gr1 (grown_trans gr2 (grown_trans (grown_drewN _ 1 _) gr3))
    generalize ah.extract 0 sh ++ s = K at *
    rw [← hal] at S1
    have HK : ∀ bad', bad' = (bad3 || decide (Bm.com ah.data.toList K.data.toList ≠ sh)) → Bm.KS bs a bad ah.data.toList K.data.toList a3 bad' := fun bad' e => ⟨sh, n, zs, a1, bad1, a2, bad2, bad3, S1.out, S2.out, s3, hdat, e⟩
    have HK := hide HK
    clear hdat hs s3 gr1 gr2 gr3 X hss
    have f2 := r3.froz 2
    cases bad3
    · have c2 := r3.good
      have R3 := hide r3
      clear r3
      go_wp2_with fail
      refine (shared_any ah K _ (by omega) (by omega)).mono ?_
      rintro E w4 ⟨rfl, bel4⟩
      have r4 := R3.out.below bel4
      have f4 := r4.froz 2
      have d2 := r4.good
      have R4 := hide r4
      have gr4 : w.grownBy w4 (some g) := grown_trans gr (grown_of_below bel4 _)
      clear r4 R3 bel4 gr c2 f2
      by_cases hc : Bm.com ah.data.toList K.data.toList = sh
      · have hb : ((Bm.com ah.data.toList K.data.toList : Int) != (sh : Int)) = false := by rw [hc]; simp
        have HK2 := hide (HK.out false (by simp [hc]))
        clear hc
        go_wp2
        go_ret
        exact ⟨K, a3, false, rfl, R4.out, gr4, HK2.out⟩
      · have hb : ((Bm.com ah.data.toList K.data.toList : Int) != (sh : Int)) = true := by simp; omega
        have HK2 := hide (HK.out true (by simp [hc]))
        clear hc
        go_wp2
        go_ret
        exact ⟨K, a3, true, rfl, R4.out.put2 true, grown_trans gr4 (grown_setCell _ _ _), HK2.out⟩
    · have c2 := r3.evil
      have R3 := hide r3
      clear r3
      go_wp2
      go_ret
      exact ⟨K, a3, true, rfl, R3.out, gr, HK.out true (by simp)⟩

end Go.Proofs.Ytkpnkknolobioaa
