/- The walk of PageBack. -/
import Derived.Test.YtdfbagnnieoonaaDoorQn
import Derived.Test.YtdfbagnnieoonaaDoorFrp
import Derived.Test.YtdfbagnnieoonaaDoorFh
import Derived.Deep.RegionHeld3
namespace Go.Proofs.YtdfbagnnieoonaaDoor
open Go.RowKit
set_option linter.unusedVariables false

/-- A page's six cells at a place. -/
def Lx (w : World) (b o : Nat) (a : Pm.Pg) : Prop := (w.cell? ⟨b, o, none⟩ = some (.int .i64 a.e) ∧ w.cell? ⟨b, o + 1, none⟩ = some (.int .u8 a.r) ∧ w.cell? ⟨b, o + 2, none⟩ = some (.int .i64 a.a) ∧ w.cell? ⟨b, o + 3, none⟩ = some (.int .u8 a.p) ∧ w.cell? ⟨b, o + 4, none⟩ = some (.int .i64 a.f) ∧ w.cell? ⟨b, o + 5, none⟩ = some (.int .i64 a.b))

theorem Lx.below {w w' : World} {b o : Nat} {a : Pm.Pg} (h : Lx w b o a) {B : Nat} (bl : Below B w w') (hb : b < B) : Lx w' b o a := by
  have e : ∀ j, w'.cell? ⟨b, j, none⟩ = w.cell? ⟨b, j, none⟩ := fun j => bl.cell (p := ⟨b, j, none⟩) hb
  obtain ⟨h0, h1, h2, h3, h4, h5⟩ := h
  exact ⟨(e _).trans h0, (e _).trans h1, (e _).trans h2, (e _).trans h3, (e _).trans h4, (e _).trans h5⟩

theorem rowP_full {w : World} {v : Value} {r : List Pm.Pg} (h : RowP w v r) (hne : 0 < r.length) :
    ∃ b off cap, v = .slice (some ⟨b, off, none⟩) r.length cap ∧ b < w.heap.size ∧ ∀ (i : Nat) (a : Pm.Pg), r[i]? = some a → Lx w b (off + i * 6) a := by
  obtain ⟨b, off, cap, h1, h2, h3, h4, h5⟩ := RowG.full pgc_len (by decide) h.1 hne
  refine ⟨b, off, cap, h1, h4, fun i a ha => ⟨?_, ?_, ?_, ?_, ?_, ?_⟩⟩
  · exact h5 i a ha 0 _ rfl
  · exact h5 i a ha 1 _ rfl
  · exact h5 i a ha 2 _ rfl
  · exact h5 i a ha 3 _ rfl
  · exact h5 i a ha 4 _ rfl
  · exact h5 i a ha 5 _ rfl

theorem cellsB {w : World} {g b o : Nat} {x a : Pm.Pg} (h : PgAt w g x) (h1 : Lx w b o a) : (w.cell? ⟨g, 0, none⟩ = some (.int .i64 x.e) ∧ w.cell? ⟨g, 1, none⟩ = some (.int .u8 x.r) ∧ w.cell? ⟨g, 2, none⟩ = some (.int .i64 x.a) ∧ w.cell? ⟨g, 3, none⟩ = some (.int .u8 x.p) ∧ w.cell? ⟨g, 4, none⟩ = some (.int .i64 x.f) ∧ w.cell? ⟨g, 5, none⟩ = some (.int .i64 x.b)) ∧ (w.cell? ⟨b, o, none⟩ = some (.int .i64 a.e) ∧ w.cell? ⟨b, o + 1, none⟩ = some (.int .u8 a.r) ∧ w.cell? ⟨b, o + 2, none⟩ = some (.int .i64 a.a) ∧ w.cell? ⟨b, o + 3, none⟩ = some (.int .u8 a.p) ∧ w.cell? ⟨b, o + 4, none⟩ = some (.int .i64 a.f) ∧ w.cell? ⟨b, o + 5, none⟩ = some (.int .i64 a.b)) :=
  ⟨⟨h.six.c0, h.six.c1, h.six.c2, h.six.c3, h.six.c4, h.six.c5⟩, h1⟩

theorem ls_cutE {r : List Pm.Pg} {z : Pm.Pg} {k n : Nat} (hw : ∀ y ∈ r, Pm.Ok y) (hn : n ≤ r.length) (hk : (Fm.cat ((r.map Pm.enc).take n)).length ≤ k) (hk' : n < r.length → k < (Fm.cat ((r.map Pm.enc).take (n + 1))).length) (hkl : k ≤ (Fm.cat (r.map Pm.enc)).length) :
    Pm.Ls ((Fm.cat (r.map Pm.enc)).take k) z ((r.take n).getLast?.getD z) (Fm.cat ((r.map Pm.enc).take n)).length := by
  rw [← List.map_take] at hk hk' ⊢
  exact Pm.ls_cut hw hn hk hk' hkl

theorem last_next {r : List Pm.Pg} {n : Nat} {a z : Pm.Pg} (h : r[n]? = some a) : (r.take (n + 1)).getLast?.getD z = a := by
  obtain ⟨h1, h2⟩ := List.getElem?_eq_some_iff.1 h
  rw [List.take_succ_eq_append_getElem h1, h2]
  simp

theorem fse_small (p : Nat) (h : (p : Int) < 2) : fse (p : Int) = 0 := by
  have : p = 0 ∨ p = 1 := by omega
  rcases this with rfl | rfl <;> rfl

theorem enc_small {l : List Pm.Pg} (h : ∀ x ∈ l, Pm.Ok x) : ∀ z ∈ l.map Pm.enc, z.length ≤ 400 := by
  intro z hz
  obtain ⟨y, hy, rfl⟩ := List.mem_map.1 hz
  have := Pm.enc_len (h y hy)
  omega

set_option maxRecDepth 100000 in
set_option maxHeartbeats 8000000 in
theorem pageBack_walk (vl : Value) (r : List Pm.Pg) (cut node : Int) (vb : Value) (bs : List Int) (w : World) (h : RowP w vl r) (hl : r.length * 48 ≤ 140737488351232) (hcut : (Lit.int .i64 cut).wf = true) (hnode : (Lit.int .i64 node).wf = true) (hb : Is .u8 w vb bs) (hbl : bs.length * 1 ≤ 140737488351232) (hm : Mst w) :
    Calls Tryd.prog 6 #[vl, .int .i64 cut, .int .i64 node, vb] w fun e w' => e = .returned (.bool true) ∧ Below w.heap.size w w' := by
  have hc := i64_of hcut
  have hnd := i64_of hnode
  unfold I64 at hc hnd
  have HV := hide h
  have HBS := hide hb
  have HM := hide hm
  obtain ⟨vo, vc, hv, hvc, hvm⟩ := h.1.shape
  obtain ⟨ao, acap, rfl, _, _⟩ := hb.shape
  have C1 := hide (lives_any w hm)
  clear h hb hm hcut hnode
  subst hv
  go_enter Tryd.func6, Tryd.ntmps6
  go_wp2_with fail
  refine C1.out.mono ?_
  rintro E w1 ⟨rfl, bel1⟩
  have S1 := bel1.size
  clear C1
  by_cases h1 : r.length ≤ 40
  rotate_left
  · have h1' : (40 : Int) < r.length := by omega
    go_wp2
    go_ret
    exact ⟨rfl, bel1⟩
  have h1' : ¬ (40 : Int) < r.length := by omega
  go_wp2_with fail
  refine (pick_any node 2 _ (by omega) (by omega) (by omega) (by omega)).mono ?_
  rintro E w1' ⟨⟨nd, hnd2, rfl⟩, rfl⟩
  go_wp2_with fail
  refine (first_any nd _).mono ?_
  rintro E w2 ⟨rfl, bel2⟩
  rw [fse_small nd hnd2]
  have HSE := hide (fse_small nd hnd2)
  obtain ⟨z0, hz0⟩ : ∃ z, fst (nd : Int) = z := ⟨_, rfl⟩
  rw [hz0]
  have HZ0 := hide hz0
  have hzf : FitP z0 := by rw [← hz0]; exact fst_fit _
  have HVZ : Hid (vp z0 = .agg #[.int .i64 z0.e, .int .u8 z0.r, .int .i64 z0.a, .int .u8 z0.p, .int .i64 z0.f, .int .i64 z0.b]) := rfl
  rw [HVZ.out]
  obtain ⟨w3, hw3, sz3, bel3, hP3, ⟨c0, c1, c2, c3, c4, c5⟩, _⟩ := newp w2 z0
  have P3 : Hid (PgAt w3 w2.heap.size z0) := hP3
  have S2 := bel2.size
  have B2 := hide (bel1.trans (bel2.mono S1))
  have B3 := hide (B2.out.trans (bel3.mono (by omega)))
  have B23 := hide bel3
  have s3' : w2.heap.size < w3.heap.size := by omega
  clear hP3 hz0 bel1 bel2 bel3 HVZ sz3
  go_wp2
  go_loopw [12, 13, 14] (fun fv ev iv wr => ∃ k : Nat, k ≤ r.length ∧ iv = .int .i64 k ∧ Hid (Own .u8 5 w3.heap.size wr fv (Fm.cat ((r.map Pm.enc).take k))) ∧ Hid (Own .i64 3 w3.heap.size wr ev (ens (r.map Pm.enc) k)) ∧ Hid (Below w3.heap.size w3 wr) ∧ Hid (∀ x ∈ r.take k, Pm.Ok x)) (fun _ _ iv _ => r.length - (intOf iv).toNat)
  case atStart => exact ⟨0, by omega, rfl, hide (Own.nil _ _ _ _), hide (Own.nil _ _ _ _), hide (Below.refl _ _), hide (by simp)⟩
  case round =>
    obtain ⟨k, hk, rfl, OB, OE, BL, SM⟩ := hrel
    have szr := BL.out.size
    have b0r : Hid (Below w.heap.size w wr) := hide (B3.out.trans (BL.out.mono (by omega)))
    have Mr := hide (HM.out.below b0r.out)
    clear c0 c1 c2 c3 c4 c5 hw3
    by_cases hlt : k < r.length
    · obtain ⟨b, off, cq, hvx, hbb, hcell⟩ := rowP_full (⟨HV.out.1.below b0r.out, HV.out.2⟩ : RowP wr _ r) (by omega)
      simp only [Value.slice.injEq, true_and] at hvx
      obtain ⟨rfl, rfl⟩ := hvx
      obtain ⟨a, ha⟩ : ∃ a, r[k]? = some a := ⟨r[k], by rw [List.getElem?_eq_getElem]⟩
      have LX := hide (hcell k a ha)
      obtain ⟨l0, l1, l2, l3, l4, l5⟩ := LX.out
      have hfa := HV.out.2 a (List.mem_of_getElem? ha)
      have KA : Hid ((r.map Pm.enc)[k]? = some (Pm.enc a)) := hide (by rw [List.getElem?_map, ha]; rfl)
      have KR := hide ha
      have hlt' : (k : Int) < r.length := by omega
      have hk0 : (0 : Int) ≤ (k : Int) := by omega
      have HFA := hide hfa
      have C2 := hide (encode_any a wr hfa Mr.out)
      clear hcell ha hfa
      go_wp2_with fail
      refine C2.out.mono ?_
      rintro E w4' ⟨v4, rfl, own4, bel4⟩
      have s4 := bel4.size
      clear C2 l0 l1 l2 l3 l4 l5
      by_cases hok : Pm.Ok a
      rotate_left
      · rw [Pm.chk_no hok]
        obtain ⟨l0, l1, l2, l3, l4, l5⟩ := LX.out.below bel4 hbb
        have C3 := hide (check_any a w4' HFA.out (Mr.out.below bel4))
        rw [Pm.chk_no hok] at C3
        have b04 := b0r.out.trans (bel4.mono b0r.out.size)
        clear hok own4 OB OE bel4
        go_wp2_with fail
        refine C3.out.mono ?_
        rintro E w5 ⟨rfl, bel5⟩
        go_wp2
        go_ret
        exact ⟨rfl, b04.trans (bel5.mono b04.size)⟩
      rw [Pm.chk_ok hok]
      rw [out_ok hok] at own4
      have HOK := hide hok
      have hel := Pm.enc_len hok
      have C3 := hide (decode_any v4 (Pm.enc a) w4' own4.is (by omega) (Mr.out.below bel4))
      clear hok
      go_wp2_with fail
      refine C3.out.mono ?_
      rintro E w4 ⟨y, e, rfl, D4, _, bel5⟩
      obtain ⟨hy, he⟩ := Pm.dc_one D4.out (Pm.dc_enc HOK.out)
      subst hy he
      have HVA : Hid (vp y = .agg #[.int .i64 y.e, .int .u8 y.r, .int .i64 y.a, .int .u8 y.p, .int .i64 y.f, .int .i64 y.b]) := rfl
      rw [HVA.out]
      have s5 := bel5.size
      have b4 := bel4.trans (bel5.mono s4)
      have O4 := hide (own4.below bel5)
      obtain ⟨w5, hw5, sz5, bel6, hP5, ⟨c0, c1, c2, c3, c4, c5⟩, _⟩ := newp w4 y
      have b5 := b4.trans (bel6.mono (by omega))
      have P5 : Hid (PgAt w5 w4.heap.size y) := hP5
      replace O4 := hide (O4.out.below bel6)
      have S0 := hide (cellsB P5.out (LX.out.below b5 hbb))
      have B5 := hide b5
      clear C3 D4 own4 bel4 bel5 b4 b5 bel6 hP5 HVA
      go_wp2_with fail
      go_region_held3 (fun w' => (w'.cell? ⟨w4.heap.size, 0, none⟩ = some (.int .i64 y.e) ∧ w'.cell? ⟨w4.heap.size, 1, none⟩ = some (.int .u8 y.r) ∧ w'.cell? ⟨w4.heap.size, 2, none⟩ = some (.int .i64 y.a) ∧ w'.cell? ⟨w4.heap.size, 3, none⟩ = some (.int .u8 y.p) ∧ w'.cell? ⟨w4.heap.size, 4, none⟩ = some (.int .i64 y.f) ∧ w'.cell? ⟨w4.heap.size, 5, none⟩ = some (.int .i64 y.b)) ∧ (w'.cell? ⟨b, off + k * 6, none⟩ = some (.int .i64 y.e) ∧ w'.cell? ⟨b, off + k * 6 + 1, none⟩ = some (.int .u8 y.r) ∧ w'.cell? ⟨b, off + k * 6 + 2, none⟩ = some (.int .i64 y.a) ∧ w'.cell? ⟨b, off + k * 6 + 3, none⟩ = some (.int .u8 y.p) ∧ w'.cell? ⟨b, off + k * 6 + 4, none⟩ = some (.int .i64 y.f) ∧ w'.cell? ⟨b, off + k * 6 + 5, none⟩ = some (.int .i64 y.b))) (first | exact S0.out | exact Swa.out | go_keep)
        (first | (go_at_call 9; refine (samePage_any y y _).mono ?_; rintro E wa ⟨rfl, bela'⟩; rw [same_self]; have bela : Below w5.heap.size w5 wa := ((Below.refl _ _).drew).trans bela'; have Swa := hide (cellsB (P5.out.below bela) ((LX.out.below B5.out hbb).below bela (by have := B5.out.size; omega))); clear bela'))
      have sa := bela.size
      have s5' := B5.out.size
      have Ba := hide (B5.out.trans (bela.mono s5'))
      replace O4 := hide (O4.out.below bela)
      have OBa := hide (OB.out.below Ba.out)
      have OEa := hide (OE.out.below Ba.out)
      have tk : ((r.map Pm.enc).take k).length = k := by rw [List.length_take, List.length_map]; omega
      have cs := cat_small ((r.map Pm.enc).take k) (by rw [← List.map_take]; exact enc_small SM.out)
      rw [tk] at cs
      have SM2 : Hid (∀ x ∈ r.take (k + 1), Pm.Ok x) := hide (by
        obtain ⟨q1, q2⟩ := List.getElem?_eq_some_iff.1 KR.out
        rw [List.take_succ_eq_append_getElem q1, q2]
        intro x hx
        rcases List.mem_append.1 hx with hx | hx
        · exact SM.out x hx
        · simp at hx; subst hx; exact HOK.out)
      have tk2 : ((r.map Pm.enc).take (k + 1)).length = k + 1 := by rw [List.length_take, List.length_map]; omega
      have cs2 := cat_small ((r.map Pm.enc).take (k + 1)) (by rw [← List.map_take]; exact enc_small SM2.out)
      rw [tk2] at cs2
      have C6 := hide (fapp_any u12 v4 _ (Pm.enc y) wa OBa.out.is O4.out.is (by omega) (by omega))
      rw [cat_next KA.out (by omega), show ape (Pm.enc y) = 0 from if_pos (by omega)] at C6
      clear S0 Swa P5 c0 c1 c2 c3 c4 c5 hw5 SM KA cs tk tk2 bela OB OE O4 B5 LX
      go_wp2_with fail
      refine C6.out.mono ?_
      rintro E w6 ⟨v6, rfl, own6, bel6⟩
      have s6 := bel6.size
      have EN := hide (ens_next (r.map Pm.enc) k)
      generalize hcl : (Fm.cat ((r.map Pm.enc).take (k + 1))).length = cl at *
      obtain ⟨o6, c6, hv6, _, _⟩ := own6.is.shape
      rw [hcl] at hv6
      have W := wf_i64 (z := (cl : Int)) (by omega) (by omega)
      obtain ⟨w7, hw7, sz7, bel7, own7⟩ := own_step .i64 3 w6 #[.int .i64 cl] 1 [(cl : Int)] rfl rfl (by simp [maxLen]) (by simpa using W)
      have OE7 := (OEa.out.below bel6).below bel7
      have sar := Ba.out.size
      have OB7 := hide ((own6.below bel7).rebase (base' := w3.heap.size) (by omega))
      have BL7 := ((BL.out.trans (Ba.out.mono szr)).trans (bel6.mono (by omega))).trans (bel7.mono (by omega))
      have le : (ens (r.map Pm.enc) k).length = k := ens_len _ _
      have OE7' := hide OE7
      have BL7' := hide BL7
      subst hv6
      clear C6 OBa OEa own6 bel6 bel7 OE7 BL7 BL Ba hcl
      generalize hen : ens (r.map Pm.enc) k = en at *
      have HEN := hide hen
      clear hen
      have OW7 := own7.is
      clear own7
      have OEo := OE7'.out
      go_wp2_with (at_builtin; refine wpList_append_is rfl (.tmp 85) (.tmp 88) 46 rfl .i64 3 w3.heap.size 8 Tryd.underlying46 Tryd.info3 (by decide) _ en rfl OEo _ [(cl : Int)] rfl OW7 (by simp; omega) (by omega) ?_)
      intro v8 w8 own8 bel8 gr8
      rw [← EN.out] at own8
      have OB8 := hide (OB7.out.kept gr8 (own_unlike OB7.out OE7'.out (by decide)))
      have BL8 := hide (BL7'.out.trans bel8)
      have OE8 := hide own8
      clear own8 bel8 gr8 OB7 BL7' OE7' OEo OW7
      go_wp2
      go_roundw
      case rel => exact ⟨k + 1, by omega, by go_num, OB8, OE8, BL8, SM2⟩
      case measure => simp [intOf]; omega
    · obtain rfl : k = r.length := by omega
      have hlt' : ¬ (r.length : Int) < r.length := by omega
      have tkall : (r.map Pm.enc).take r.length = r.map Pm.enc := List.take_of_length_le (by rw [List.length_map]; omega)
      have tkr : r.take r.length = r := List.take_of_length_le (by omega)
      rw [tkall] at OB
      rw [tkr] at SM
      have cs := cat_small _ (enc_small SM.out)
      rw [List.length_map] at cs
      have HSM := hide SM.out
      obtain ⟨o5, c5, hv5, _, _⟩ := OB.out.is.shape
      generalize hcl : (Fm.cat (r.map Pm.enc)).length = cl at *
      have HCL := hide hcl
      have e5 : IntKind.i64.wrap ((cl : Int) + 1) = (cl : Int) + 1 := wrap_i64_small _ (by omega) (by omega)
      have C3 := hide (pick_any cut ((cl : Int) + 1) wr (by omega) (by omega) (by omega) (by omega))
      subst hv5
      have PR := hide (P3.out.below BL.out)
      have B2r := hide (B23.out.trans (BL.out.mono (by omega)))
      clear SM tkall tkr hcl
      go_wp2_with fail
      refine C3.out.mono ?_
      rintro E w3' ⟨⟨p, hp, rfl⟩, rfl⟩
      clear C3
      go_wp2
      go_loopw [20, 21] (fun gv nv wx => ∃ n : Nat, n ≤ r.length ∧ nv = .int .i64 n ∧ gv = .int .i64 ((Fm.cat ((r.map Pm.enc).take n)).length : Nat) ∧ Hid ((Fm.cat ((r.map Pm.enc).take n)).length ≤ p) ∧ Hid (Own .u8 5 w3.heap.size wx (.slice o5 cl c5) (Fm.cat (r.map Pm.enc))) ∧ Hid (Own .i64 3 w3.heap.size wx u13 (ens (r.map Pm.enc) r.length)) ∧ Hid (PgAt wx w2.heap.size ((r.take n).getLast?.getD z0)) ∧ Hid (Below w2.heap.size w2 wx)) (fun _ nv _ => r.length - (intOf nv).toNat)
      case atStart => exact ⟨0, by omega, rfl, rfl, hide (Nat.zero_le _), OB, OE, PR, B2r⟩
      case round =>
        obtain ⟨n, hn, rfl, rfl, HP, OX, EX, PX, BX⟩ := hrel
        have b0x := B2.out.trans (BX.out.mono (by omega))
        obtain ⟨LL, hLL⟩ : ∃ l, (r.take n).getLast?.getD z0 = l := ⟨_, rfl⟩
        rw [hLL] at PX
        have HLL := hide hLL
        obtain ⟨cg, hcg⟩ : ∃ l, (Fm.cat ((r.map Pm.enc).take n)).length = l := ⟨_, rfl⟩
        rw [hcg]
        have HCG := hide hcg
        have sx := BX.out.size
        clear hLL hcg OB OE PR BL Mr
        by_cases hnl : n < r.length
        · have hnl' : (n : Int) < r.length := by omega
          have le := ens_len (r.map Pm.enc) r.length
          obtain ⟨be, oe, ce, hve, _, _, hbe, hce⟩ := EX.out.is.full (by rw [le]; omega)
          rw [le] at hve
          have e6 := hce n (by rw [le]; exact hnl)
          rw [ens_at _ _ _ hnl] at e6
          have hn0 : (0 : Int) ≤ (n : Int) := by omega
          generalize hcn : (Fm.cat ((r.map Pm.enc).take (n + 1))).length = cn at *
          have HCN := hide hcn
          subst hve
          clear hce le hcn
          by_cases hle : cn ≤ p
          · have hle' : (cn : Int) ≤ p := by omega
            obtain ⟨b, off, cq, hvx, hbb, hcell⟩ := rowP_full (⟨HV.out.1.below b0x, HV.out.2⟩ : RowP wr _ r) (by omega)
            simp only [Value.slice.injEq, true_and] at hvx
            obtain ⟨rfl, rfl⟩ := hvx
            obtain ⟨a, ha⟩ : ∃ a, r[n]? = some a := ⟨r[n], by rw [List.getElem?_eq_getElem]⟩
            obtain ⟨l0, l1, l2, l3, l4, l5⟩ := hcell n a ha
            have LN := hide (last_next (z := z0) ha)
            obtain ⟨V, hV, bV, gV, ⟨a0, a1, a2, a3, a4, a5⟩, fr, ⟨z0', z1, z2, z3, z4, z5⟩⟩ := put6 PX.out (.int .i64 a.e) (.int .u8 a.r) (.int .i64 a.a) (.int .u8 a.p) (.int .i64 a.f) (.int .i64 a.b)
            have f0 := fr 0; have f1 := fr 1; have f2 := fr 2; have f3 := fr 3; have f4 := fr 4; have f5 := fr 5
            have hbe3 := (EX.out.block be rfl).1
            have hbw : be ≠ w2.heap.size := by omega
            have e7 : V.cell? ⟨be, oe + n, none⟩ = some (.int .i64 cn) := (World.cell?_of_block (w := wr) (gV.block be hbe (by simp; omega))).trans e6
            have OV := hide ((OX.out.kept gV (.inr (fun e => by have := OX.out.block _ e; omega))).drewN 1)
            have EV := hide ((EX.out.kept gV (.inr (fun e => by have := EX.out.block _ e; omega))).drewN 1)
            have PV : Hid (PgAt V.drew w2.heap.size ((r.take (n + 1)).getLast?.getD z0)) := by rw [LN.out]; exact bV
            have BV := hide ((below_put BX.out gV (Nat.le_refl _) sx).drew)
            clear ha hcell bV gV fr PX LN OX EX BX b0x
            go_wp2_with fail
            go_region
            go_wp2
            go_roundw
            case rel => exact ⟨n + 1, by omega, by go_num, by rw [HCN.out], hide (by rw [HCN.out]; exact hle), OV, EV, PV, BV⟩
            case measure => simp [intOf]; omega
          · have hle' : ¬ (cn : Int) ≤ p := by omega
            have HK : Hid (n < r.length → p < (Fm.cat ((r.map Pm.enc).take (n + 1))).length) := hide fun _ => by rw [HCN.out]; omega
            have lcat := HCL.out
            obtain ⟨vs, hsl, isl⟩ := OX.out.is.slice_h Tryd.elemP Tryd.sizeP p (by omega)
            have LSn : Hid (LRes ((Fm.cat (r.map Pm.enc)).take p) nd LL cg 0) := .inl ⟨HSE.out, rfl, by rw [HZ0.out, ← HLL.out, ← HCG.out]; exact ls_cutE HSM.out hn HP.out HK.out (by omega)⟩
            have C4 := hide (last_any vs _ nd wr isl (by rw [List.length_take]; omega) (HM.out.below b0x))
            clear isl lcat
            go_wp2_with fail
            refine C4.out.mono ?_
            rintro E w4 ⟨y, at_, e, rfl, D4, _, bel4⟩
            obtain ⟨hy, hat, he⟩ := lres_one D4.out LSn.out
            subst hat he
            rw [hy]
            have HVA : Hid (vp LL = .agg #[.int .i64 LL.e, .int .u8 LL.r, .int .i64 LL.a, .int .u8 LL.p, .int .i64 LL.f, .int .i64 LL.b]) := rfl
            rw [HVA.out]
            have s4 := bel4.size
            have b04 := b0x.trans (bel4.mono b0x.size)
            have P4 := hide (PX.out.below bel4)
            obtain ⟨w5, hw5, sz5, bel5, hP5, ⟨d0, d1, d2, d3, d4, d5⟩, _⟩ := newp w4 LL
            have P5 : Hid (PgAt w5 w4.heap.size LL) := hP5
            replace P4 := hide (P4.out.below bel5)
            have b05 := b04.trans (bel5.mono b04.size)
            obtain ⟨q0, q1, q2, q3, q4, q5⟩ := P4.out.six
            clear C4 D4 LSn hy bel4 bel5 hP5 HVA hsl b04
            go_wp2_with fail
            refine (samePage_any LL LL _).mono ?_
            rintro E w6 ⟨rfl, bel6⟩
            rw [same_self]
            have b06 := b05.trans (bel6.mono b05.size)
            have C7 := hide (decode_any _ bs w6 (HBS.out.below b06) (by omega) (HM.out.below b06))
            clear d0 d1 d2 d3 d4 d5 q0 q1 q2 q3 q4 q5 bel6 b05 hw5 sz5 P4 P5
            go_wp2_with fail
            refine C7.out.mono ?_
            rintro E w7 ⟨q, e, rfl, D7, fit7, bel7⟩
            have b07 := b06.trans (bel7.mono b06.size)
            have HVQ : Hid (vp q = .agg #[.int .i64 q.e, .int .u8 q.r, .int .i64 q.a, .int .u8 q.p, .int .i64 q.f, .int .i64 q.b]) := rfl
            rw [HVQ.out]
            obtain ⟨w8, hw8, sz8, bel8, hP8, ⟨d0, d1, d2, d3, d4, d5⟩, _⟩ := newp w7 q
            have b08 := b07.trans (bel8.mono b07.size)
            clear C7 bel7 bel8 b06 b07 HVQ hP8
            rcases dc_e D7.out with ⟨rfl, hok⟩ | ⟨rfl, hno⟩
            · have hbe : bs = Pm.enc q := by
                rcases D7.out with ⟨_, _, h⟩ | ⟨h, _⟩
                · exact h
                · cases h
              have C9 := hide (encode_any q w8 fit7 (HM.out.below b08))
              rw [Pm.chk_ok hok, out_ok hok, ← hbe] at C9
              clear hok hbe D7
              go_wp2_with fail
              refine C9.out.mono ?_
              rintro E w9 ⟨v9, rfl, own9, bel9⟩
              have b09 := b08.trans (bel9.mono b08.size)
              have C10 := hide (same_yes _ _ bs bs w9 own9.is (HBS.out.below b09) (by omega) rfl)
              clear C9 bel9 own9 b08
              go_wp2_with fail
              refine C10.out.mono ?_
              rintro E w10 ⟨rfl, bel10⟩
              go_wp2
              go_ret
              exact ⟨rfl, b09.trans (bel10.mono b09.size)⟩
            · have C9 := hide (samePage_any q Pm.no w8)
              rw [same_iff.2 hno] at C9
              clear hno D7
              go_wp2_with fail
              refine C9.out.mono ?_
              rintro E w9 ⟨rfl, bel9⟩
              go_wp2
              go_ret
              exact ⟨rfl, b08.trans (bel9.mono b08.size)⟩
        · have hnl' : ¬ (n : Int) < r.length := by omega
          have HK : Hid (n < r.length → p < (Fm.cat ((r.map Pm.enc).take (n + 1))).length) := hide fun h => absurd h hnl
          have lcat := HCL.out
          obtain ⟨vs, hsl, isl⟩ := OX.out.is.slice_h Tryd.elemP Tryd.sizeP p (by omega)
          have LSn : Hid (LRes ((Fm.cat (r.map Pm.enc)).take p) nd LL cg 0) := .inl ⟨HSE.out, rfl, by rw [HZ0.out, ← HLL.out, ← HCG.out]; exact ls_cutE HSM.out hn HP.out HK.out (by omega)⟩
          have C4 := hide (last_any vs _ nd wr isl (by rw [List.length_take]; omega) (HM.out.below b0x))
          clear isl lcat
          go_wp2_with fail
          refine C4.out.mono ?_
          rintro E w4 ⟨y, at_, e, rfl, D4, _, bel4⟩
          obtain ⟨hy, hat, he⟩ := lres_one D4.out LSn.out
          subst hat he
          rw [hy]
          have HVA : Hid (vp LL = .agg #[.int .i64 LL.e, .int .u8 LL.r, .int .i64 LL.a, .int .u8 LL.p, .int .i64 LL.f, .int .i64 LL.b]) := rfl
          rw [HVA.out]
          have s4 := bel4.size
          have b04 := b0x.trans (bel4.mono b0x.size)
          have P4 := hide (PX.out.below bel4)
          obtain ⟨w5, hw5, sz5, bel5, hP5, ⟨d0, d1, d2, d3, d4, d5⟩, _⟩ := newp w4 LL
          have P5 : Hid (PgAt w5 w4.heap.size LL) := hP5
          replace P4 := hide (P4.out.below bel5)
          have b05 := b04.trans (bel5.mono b04.size)
          obtain ⟨q0, q1, q2, q3, q4, q5⟩ := P4.out.six
          clear C4 D4 LSn hy bel4 bel5 hP5 HVA hsl b04
          go_wp2_with fail
          refine (samePage_any LL LL _).mono ?_
          rintro E w6 ⟨rfl, bel6⟩
          rw [same_self]
          have b06 := b05.trans (bel6.mono b05.size)
          have C7 := hide (decode_any _ bs w6 (HBS.out.below b06) (by omega) (HM.out.below b06))
          clear d0 d1 d2 d3 d4 d5 q0 q1 q2 q3 q4 q5 bel6 b05 hw5 sz5 P4 P5
          go_wp2_with fail
          refine C7.out.mono ?_
          rintro E w7 ⟨q, e, rfl, D7, fit7, bel7⟩
          have b07 := b06.trans (bel7.mono b06.size)
          have HVQ : Hid (vp q = .agg #[.int .i64 q.e, .int .u8 q.r, .int .i64 q.a, .int .u8 q.p, .int .i64 q.f, .int .i64 q.b]) := rfl
          rw [HVQ.out]
          obtain ⟨w8, hw8, sz8, bel8, hP8, ⟨d0, d1, d2, d3, d4, d5⟩, _⟩ := newp w7 q
          have b08 := b07.trans (bel8.mono b07.size)
          clear C7 bel7 bel8 b06 b07 HVQ hP8
          rcases dc_e D7.out with ⟨rfl, hok⟩ | ⟨rfl, hno⟩
          · have hbe : bs = Pm.enc q := by
              rcases D7.out with ⟨_, _, h⟩ | ⟨h, _⟩
              · exact h
              · cases h
            have C9 := hide (encode_any q w8 fit7 (HM.out.below b08))
            rw [Pm.chk_ok hok, out_ok hok, ← hbe] at C9
            clear hok hbe D7
            go_wp2_with fail
            refine C9.out.mono ?_
            rintro E w9 ⟨v9, rfl, own9, bel9⟩
            have b09 := b08.trans (bel9.mono b08.size)
            have C10 := hide (same_yes _ _ bs bs w9 own9.is (HBS.out.below b09) (by omega) rfl)
            clear C9 bel9 own9 b08
            go_wp2_with fail
            refine C10.out.mono ?_
            rintro E w10 ⟨rfl, bel10⟩
            go_wp2
            go_ret
            exact ⟨rfl, b09.trans (bel10.mono b09.size)⟩
          · have C9 := hide (samePage_any q Pm.no w8)
            rw [same_iff.2 hno] at C9
            clear hno D7
            go_wp2_with fail
            refine C9.out.mono ?_
            rintro E w9 ⟨rfl, bel9⟩
            go_wp2
            go_ret
            exact ⟨rfl, b08.trans (bel9.mono b08.size)⟩

end Go.Proofs.YtdfbagnnieoonaaDoor
