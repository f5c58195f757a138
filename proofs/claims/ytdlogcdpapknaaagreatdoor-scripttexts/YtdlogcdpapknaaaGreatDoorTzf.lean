/- The document's ops (layer 25). -/
import Derived.Test.YtdlogcdpapknaaaGreatDoorTze
import Derived.Test.YtdlogcdpapknaaaGreatDoorZR
import Derived.Test.YtdlogcdpapknaaaGreatDoorZK
namespace Go.Proofs.YtdlogcdpapknaaaGreatDoor
open Go.RowKit
set_option linter.unusedVariables false
set_option maxRecDepth 100000

/-- A deletion bears no value. -/
def DelO (l : List Bm.Ov) : Prop := ∀ o ∈ l, o.p = false → o.v = ⟨#[]⟩

theorem opw_pre : ∀ (l m : List Bm.Ov) (R : List (List UInt8)), DelO l → DelO m → Sct.opw m = Sct.opw l ++ R → ∃ r, m = l ++ r ∧ Sct.opw r = R
  | [], m, R, _, _, h => ⟨m, rfl, h⟩
  | o :: l, [], R, _, _, h => by
    exfalso
    simp only [Sct.opw] at h
    split at h <;> simp at h
  | o :: l, q :: m, R, h1, h2, h => by
    simp only [Sct.opw] at h
    obtain ⟨p, k, v⟩ := o
    obtain ⟨p', k', v'⟩ := q
    have d1 := h1 ⟨p, k, v⟩ (by simp)
    have d2 := h2 ⟨p', k', v'⟩ (by simp)
    have e1 : DelO l := fun o ho => h1 o (List.mem_cons_of_mem _ ho)
    have e2 : DelO m := fun o ho => h2 o (List.mem_cons_of_mem _ ho)
    cases p <;> cases p'
    · simp only [Bool.false_eq_true, if_false, List.cons_append, List.nil_append, List.cons.injEq] at h
      obtain ⟨_, a1, a2⟩ := h
      obtain ⟨r, rfl, hr⟩ := opw_pre l m R e1 e2 a2
      have ek : k = k' := Sct.ba_ext (Wm.wd_inj a1.symm)
      have ev : v = v' := (d1 rfl).trans (d2 rfl).symm
      subst ek ev
      exact ⟨r, rfl, hr⟩
    · simp only [Bool.false_eq_true, if_false, if_true, List.cons_append, List.nil_append, List.cons.injEq] at h
      exact absurd h.1 (by decide)
    · simp only [Bool.false_eq_true, if_false, if_true, List.cons_append, List.nil_append, List.cons.injEq] at h
      exact absurd h.1 (by decide)
    · simp only [if_true, List.cons_append, List.nil_append, List.cons.injEq] at h
      obtain ⟨_, a1, a3, a2⟩ := h
      obtain ⟨r, rfl, hr⟩ := opw_pre l m R e1 e2 a2
      have ek : k = k' := Sct.ba_ext (Wm.wd_inj a1.symm)
      have ev : v = v' := Sct.ba_ext (Wm.wd_inj a3.symm)
      subst ek ev
      exact ⟨r, rfl, hr⟩

/-- What stands behind ops that were read. -/
theorem opw_next {l m : List Bm.Ov} {x : List UInt8} {R : List (List UInt8)} (hl : DelO l) (hm : Bm.chkL m = 0) (h : Sct.opw m = Sct.opw l ++ x :: R) : (x = [112, 117, 116] ∧ ∃ k v r, R = Wm.wd k :: Wm.wd v :: r) ∨ (x = [100, 101, 108] ∧ ∃ k r, R = Wm.wd k :: r) := by
  obtain ⟨r, _, hr⟩ := opw_pre l m _ hl (Sct.chk_del hm) h
  cases r with
  | nil => simp [Sct.opw] at hr
  | cons q r =>
    simp only [Sct.opw] at hr
    split at hr
    · simp only [List.cons_append, List.nil_append, List.cons.injEq] at hr
      exact .inl ⟨hr.1.symm, _, _, _, hr.2.symm⟩
    · simp only [List.cons_append, List.nil_append, List.cons.injEq] at hr
      exact .inr ⟨hr.1.symm, _, _, hr.2.symm⟩

/-- What ops comes to. -/
def OpsR (W : List (List UInt8)) (l : List Bm.Ov) (ok : Bool) : Prop := (ok = true ∧ Bm.chkL l = 0 ∧ Sct.opw l = W) ∨ (ok = false ∧ ∀ m, Bm.chkL m = 0 → Sct.opw m ≠ W)
def OpsE (W : List (List UInt8)) (w : World) (E : Ending) (w' : World) : Prop := ∃ v l ok, E = .returned (.tuple #[v, .bool ok]) ∧ OwnO 77 w.heap.size w' v l ∧ OpsR W l ok ∧ Below w.heap.size w w'
theorem opsE_no {W : List (List UInt8)} {w w' : World} (h : ∀ m, Bm.chkL m = 0 → Sct.opw m ≠ W) (hb : Below w.heap.size w w') : OpsE W w (.returned (.tuple #[.slice none 0 0, .bool false])) w' := ⟨_, [], false, rfl, OwnO.nil _ _ _, .inr ⟨rfl, h⟩, hb⟩

theorem drop_gen {α : Type} {L : List α} {i : Nat} {c : α} (h : L[i]? = some c) : L.drop i = c :: L.drop (i + 1) := by
  obtain ⟨h1, h2⟩ := List.getElem?_eq_some_iff.1 h
  rw [List.drop_eq_getElem_cons h1, h2]
theorem wl_at {ws : List ByteArray} {i : Nat} {x : ByteArray} (h : ws[i]? = some x) : (wl ws).drop i = x.data.toList :: (wl ws).drop (i + 1) := by
  have hm : (wl ws)[i]? = some x.data.toList := by unfold wl; rw [List.getElem?_map, h]; rfl
  exact drop_gen hm
theorem wd_key {k s : ByteArray} (h : Wm.wd k.data.toList = s.data.toList) (hs : s.size ≤ 65536) : k.size ≤ 65536 := by
  have h1 : k.data.toList.length ≤ (Wm.wd k.data.toList).length := by
    by_cases h0 : k.data.toList = []
    · rw [h0]; simp
    · rw [Wm.wd_full h0]; exact Wm.flat_ge _
  rw [h, ← Lib.size_eq, ← Lib.size_eq] at h1
  omega

theorem opsR_add {l : List Bm.Ov} {W g : List (List UInt8)} {o : Bm.Ov} {i j : Nat} (h : Sct.opw l = W.take i) (hw : W.drop i = g ++ W.drop j) (ho : Sct.opw [o] = g) (hj : j = i + g.length) : Sct.opw (l ++ [o]) = W.take j := by
  rw [opw_app, h, ho]
  have e1 := List.take_append_drop i W
  rw [hw] at e1
  by_cases hi : i ≤ W.length
  · have hk : (W.take i ++ g).length = j := by rw [List.length_append, List.length_take]; omega
    rw [← List.append_assoc] at e1
    have := List.take_left' (l₂ := W.drop j) hk
    rw [e1] at this
    exact this.symm
  · have h0 : W.drop i = [] := List.drop_eq_nil_of_le (by omega)
    rw [h0] at hw
    have hg : g = [] := by
      cases g with
      | nil => rfl
      | cons a b => simp at hw
    subst hg
    simp at hj
    subst hj
    simp

set_option maxHeartbeats 4000000 in
theorem opsR_any (v : Value) (ws : List ByteArray) (w : World) (h : RowG fsc w v ws) (hz : ∀ s ∈ ws, s.size ≤ 65536) (hl : ws.length ≤ 65536) : Calls Tryz.prog 75 #[v] w (OpsE (wl ws) w) := by
  have AT := hide (fun W (hW : Below w.heap.size w W) (hne : 0 < ws.length) => (h.below hW).full fsc_len (by decide) hne)
  obtain ⟨oa, oc, rfl, _, _⟩ := h.shape
  obtain ⟨n, hn⟩ : ∃ n, ws.length = n := ⟨_, rfl⟩
  have HN := hide hn
  have HZ := hide hz
  rw [hn] at hl AT ⊢
  clear h hz hn
  go_enter Tryz.func75, Tryz.ntmps75
  go_wp2
  go_loopw [4, 5] (fun ov iv wr => ∃ (i : Nat) (l : List Bm.Ov), i ≤ n ∧ iv = .int .i64 i ∧ OwnO 77 w.heap.size wr ov l ∧ l.length ≤ i ∧ Hid (Sct.opw l = (wl ws).take i ∧ DelO l ∧ (∀ o ∈ l, o.k.size ≤ 65536 ∧ o.v.size ≤ 65536)) ∧ Below w.heap.size w wr) (fun _ iv _ => n - (intOf iv).toNat)
  case atStart => exact ⟨0, [], by omega, rfl, OwnO.nil _ _ _, by simp, hide ⟨by simp [Sct.opw], fun o ho => by simp at ho, fun o ho => by simp at ho⟩, Below.refl _ _⟩
  case round =>
    obtain ⟨i, l, hi, rfl, own, hli, I, bel⟩ := hrel
    have hbs := bel.size
    by_cases hlt : i < n
    · have hlt' : (i : Int) < n := by omega
      obtain ⟨b, off, cap, hvv, hc0, hc1, hc2, hc⟩ := AT.out wr bel (by omega)
      cases hvv
      have cell : ∀ (j : Nat) (x : ByteArray), ws[j]? = some x → wr.cell? ⟨b, off + j, none⟩ = some (.string x) := fun j x hx => by simpa using hc j x hx 0 (.string x) rfl
      obtain ⟨x, hx⟩ : ∃ x, ws[i]? = some x := ⟨ws[i]'(by have := HN.out; omega), List.getElem?_eq_getElem _⟩
      have cx := cell i x hx
      have hsz : x.size ≤ 65536 := HZ.out x (List.mem_of_getElem? hx)
      have WA := hide (wl_at hx)
      obtain ⟨wA, hwA, sA, bA, pA⟩ := blk_step wr #[.bool false, .string ⟨#[]⟩, .string ⟨#[]⟩] 77
      have OWA := hide (own.below bA)
      have BA := hide (bel.trans (bA.mono hbs))
      have a0 := blk_cell pA 0 rfl
      have a1 := blk_cell pA 1 rfl
      have a2 := blk_cell pA 2 rfl
      have PA := hide pA
      have NEXT : Hid (∀ m, Bm.chkL m = 0 → Sct.opw m = wl ws → (x.data.toList = [112, 117, 116] ∧ ∃ k v r, (wl ws).drop (i + 1) = Wm.wd k :: Wm.wd v :: r) ∨ (x.data.toList = [100, 101, 108] ∧ ∃ k r, (wl ws).drop (i + 1) = Wm.wd k :: r)) := hide fun m hm he => by
        refine opw_next I.out.2.1 hm ?_
        rw [he, I.out.1, ← WA.out]
        exact (List.take_append_drop i (wl ws)).symm
      have cxA := (bA.cell (World.block_lt_of_cell? _ _ cx)).trans cx
      cases hp : (x.toList == [112, 117, 116])
      · have hp' : x.data.toList ≠ [112, 117, 116] := by rw [← Lib.toList_data]; exact beq_eq_false_iff_ne.1 hp
        cases hd : (x.toList == [100, 101, 108])
        · have hd' : x.data.toList ≠ [100, 101, 108] := by rw [← Lib.toList_data]; exact beq_eq_false_iff_ne.1 hd
          have FF := hide (opsE_no (fun m hm he => by
            rcases NEXT.out m hm he with ⟨h1, _⟩ | ⟨h1, _⟩
            · exact hp' h1
            · exact hd' h1) BA.out)
          clear own bA pA hp' hd'
          go_wp2
          go_ret2
          exact FF.out
        · have hd' : x.data.toList = [100, 101, 108] := by rw [← Lib.toList_data]; exact beq_iff_eq.1 hd
          by_cases h2 : n < i + 2
          · have h2' : (n : Int) < i + 2 := by omega
            have FF := hide (opsE_no (W := wl ws) (fun m hm he => by
              have hln : ((wl ws).drop (i + 1)).length = n - (i + 1) := by unfold wl; rw [List.length_drop, List.length_map, HN.out]
              rcases NEXT.out m hm he with ⟨h1, k, v, r, hr⟩ | ⟨h1, k, r, hr⟩
              · rw [hd'] at h1
                exact absurd h1 (by decide)
              · rw [hr] at hln
                simp at hln
                omega) BA.out)
            clear own bA pA
            go_wp2
            go_ret2
            exact FF.out
          have h2' : ¬ (n : Int) < i + 2 := by omega
          obtain ⟨y, hy⟩ : ∃ y, ws[i + 1]? = some y := ⟨ws[i + 1]'(by have := HN.out; omega), List.getElem?_eq_getElem _⟩
          have hyz : y.size ≤ 65536 := HZ.out y (List.mem_of_getElem? hy)
          have WY := hide (wl_at hy)
          have cyA : wA.cell? ⟨b, off + (i + 1), none⟩ = some (.string y) := (bA.cell (World.block_lt_of_cell? _ _ (cell (i + 1) y hy))).trans (cell (i + 1) y hy)
          have BY := hide (bytsR_any y wA (by omega))
          clear bA pA
          go_wp2_with fail
          refine BY.out.mono ?_
          rintro E w2 ⟨k, e, rfl, hb, b2⟩
          have p2 := (b2.block _ (blk_lt PA.out)).trans PA.out
          have O2 := hide (OWA.out.below b2)
          have B2 := hide (BA.out.trans (b2.mono BA.out.size))
          have e0 := blk_cell p2 0 rfl
          have e1 := blk_cell p2 1 rfl
          have e2 := blk_cell p2 2 rfl
          have f1 := blk_froz p2 1
          clear a0 a1 a2 BY b2
          rcases hb with ⟨rfl, hk⟩ | ⟨rfl, hk0, hno⟩
          · have q := set_cells p2 1 (.string k)
            have gV := grown_setCell w2 ⟨wr.heap.size, 1, none⟩ (.string k)
            obtain ⟨V, hV⟩ : ∃ V, w2.setCell ⟨wr.heap.size, 1, none⟩ (.string k) = V := ⟨_, rfl⟩
            rw [hV] at q gV
            have q : V.heap[wr.heap.size]? = some (.cells #[.bool false, .string k, .string ⟨#[]⟩] 77 (0, 0)) := q
            have BV := below_put B2.out gV hbs B2.out.size
            have OV := O2.out.kept gV (by
              rcases hv : Value.ownBlock _ with _ | bb
              · exact .inl rfl
              · refine .inr fun e => ?_
                have := own.block bb hv
                simp at e
                omega)
            have u0 := blk_cell q 0 rfl
            have u1 := blk_cell q 1 rfl
            have u2 := blk_cell q 2 rfl
            have ksz := wd_key hk hyz
            clear p2 gV
            have own1 := OV
            obtain ⟨wd, hwd, szd, bd, own2⟩ := ops_step 77 V #[.bool false, .string k, .string ⟨#[]⟩] 1 [⟨false, k, ⟨#[]⟩⟩] rfl rfl (by simp [maxLen])
            have own3 := own1.below bd
            have Bd := BV.trans (bd.mono BV.size)
            have NI : Hid (Sct.opw (l ++ [⟨false, k, ⟨#[]⟩⟩]) = (wl ws).take (i + 2) ∧ DelO (l ++ [⟨false, k, ⟨#[]⟩⟩]) ∧ (∀ o ∈ l ++ [(⟨false, k, ⟨#[]⟩⟩ : Bm.Ov)], o.k.size ≤ 65536 ∧ o.v.size ≤ 65536)) := hide ⟨opsR_add I.out.1 (g := [[100, 101, 108], Wm.wd k.data.toList]) (by rw [WA.out, WY.out, hd', hk]; rfl) (by simp [Sct.opw, Bm.Ov.kl]) (by simp), fun o ho hpf => by
              rcases List.mem_append.1 ho with ho | ho
              · exact I.out.2.1 o ho hpf
              · rw [List.mem_singleton.1 ho], fun o ho => by
              rcases List.mem_append.1 ho with ho | ho
              · exact I.out.2.2 o ho
              · rw [List.mem_singleton.1 ho]
                exact ⟨ksz, by show (ByteArray.mk #[]).size ≤ 65536; decide⟩⟩
            have PV := hide q
            clear own own1 bd
            go_wp2_with (at_builtin; refine wpList_append_ops rfl (.tmp 56) (.tmp 58) 22 rfl 77 w.heap.size Tryz.underlying22 Tryz.info77 _ l rfl own3 _ [⟨false, k, ⟨#[]⟩⟩] rfl own2.is (by simp; omega) (by have := Bd.size; omega) ?_)
            intro v3 w3 own4 b3 g3
            have B3 := hide (Bd.trans b3)
            clear b3 g3 own2 own3 Bd
            go_wp2
            go_roundw
            case rel => exact ⟨i + 2, _, by omega, by go_num, own4, by simp; omega, NI, B3.out⟩
            case measure => first | (simp [intOf]; done) | (simp [intOf]; omega)
          · have FF := hide (opsE_no (W := wl ws) (fun m hm he => by
              rcases NEXT.out m hm he with ⟨h1, _⟩ | ⟨h1, q, r, hr⟩
              · rw [hd'] at h1
                exact absurd h1 (by decide)
              · rw [WY.out] at hr
                exact hno q (List.cons.inj hr).1.symm) B2.out)
            clear own p2
            go_wp2
            go_ret2
            exact FF.out
      · have hp' : x.data.toList = [112, 117, 116] := by rw [← Lib.toList_data]; exact beq_iff_eq.1 hp
        have q1 := set_cells PA.out 0 (.bool true)
        have g1 := grown_setCell wA ⟨wr.heap.size, 0, none⟩ (.bool true)
        have fA := blk_froz PA.out 0
        obtain ⟨V1, hV1⟩ : ∃ V, wA.setCell ⟨wr.heap.size, 0, none⟩ (.bool true) = V := ⟨_, rfl⟩
        rw [hV1] at q1 g1
        have q1 : V1.heap[wr.heap.size]? = some (.cells #[.bool true, .string ⟨#[]⟩, .string ⟨#[]⟩] 77 (0, 0)) := q1
        have B1 := hide (below_put BA.out g1 hbs BA.out.size)
        have O1 := hide (OWA.out.kept g1 (by
            rcases hv : Value.ownBlock _ with _ | bb
            · exact .inl rfl
            · refine .inr fun e => ?_
              have := own.block bb hv
              simp at e
              omega))
        have Q1 := hide q1
        have hbl : b < wr.heap.size := World.block_lt_of_cell? _ _ cx
        have CELL1 : Hid (∀ (j : Nat) (t : ByteArray), ws[j]? = some t → V1.cell? ⟨b, off + j, none⟩ = some (.string t)) := hide fun j t ht => by
          have h1 := cell j t ht
          have h2 : wA.cell? ⟨b, off + j, none⟩ = some (.string t) := (bA.cell (World.block_lt_of_cell? _ _ h1)).trans h1
          have h3 : V1.heap[b]? = wA.heap[b]? := g1.block b (by have := bA.size; omega) (by simp; omega)
          unfold World.cell? at h2 ⊢
          simp only [h3]
          exact h2
        by_cases h2 : n < i + 3
        · have h2' : (n : Int) < i + 3 := by omega
          have FF := hide (opsE_no (W := wl ws) (fun m hm he => by
            have hln : ((wl ws).drop (i + 1)).length = n - (i + 1) := by unfold wl; rw [List.length_drop, List.length_map, HN.out]
            rcases NEXT.out m hm he with ⟨h1, k, v, r, hr⟩ | ⟨h1, k, r, hr⟩
            · rw [hr] at hln
              simp at hln
              omega
            · rw [hp'] at h1
              exact absurd h1 (by decide)) B1.out)
          clear own bA pA g1 q1
          go_wp2
          go_ret2
          exact FF.out
        have h2' : ¬ (n : Int) < i + 3 := by omega
        obtain ⟨y, hy⟩ : ∃ y, ws[i + 1]? = some y := ⟨ws[i + 1]'(by have := HN.out; omega), List.getElem?_eq_getElem _⟩
        obtain ⟨z, hz⟩ : ∃ z, ws[i + 2]? = some z := ⟨ws[i + 2]'(by have := HN.out; omega), List.getElem?_eq_getElem _⟩
        have hyz : y.size ≤ 65536 := HZ.out y (List.mem_of_getElem? hy)
        have hzz : z.size ≤ 65536 := HZ.out z (List.mem_of_getElem? hz)
        have WY := hide (wl_at hy)
        have WZ := hide (wl_at hz)
        have cy := CELL1.out (i + 1) y hy
        have BY := hide (bytsR_any y V1 (by omega))
        have bs1 := bA.size
        have vs1 := g1.size
        clear bA pA g1 q1
        go_wp2_with fail
        refine BY.out.mono ?_
        rintro E w2 ⟨k, e, rfl, hb, b2⟩
        have p2 := (b2.block _ (blk_lt Q1.out)).trans Q1.out
        have O2 := hide (O1.out.below b2)
        have B2 := hide (B1.out.trans (b2.mono B1.out.size))
        have e0 := blk_cell p2 0 rfl
        have f1 := blk_froz p2 1
        have e1 := blk_cell p2 1 rfl
        have cz2 : w2.cell? ⟨b, off + (i + 2), none⟩ = some (.string z) := (b2.cell (World.block_lt_of_cell? _ _ (CELL1.out (i + 2) z hz))).trans (CELL1.out (i + 2) z hz)
        have bs2 := b2.size
        clear a0 a1 a2 BY b2 cy cxA
        rcases hb with ⟨rfl, hk⟩ | ⟨rfl, hk0, hno⟩
        · have q2 := set_cells p2 1 (.string k)
          have g2 := grown_setCell w2 ⟨wr.heap.size, 1, none⟩ (.string k)
          obtain ⟨V2, hV2⟩ : ∃ V, w2.setCell ⟨wr.heap.size, 1, none⟩ (.string k) = V := ⟨_, rfl⟩
          rw [hV2] at q2 g2
          have q2 : V2.heap[wr.heap.size]? = some (.cells #[.bool true, .string k, .string ⟨#[]⟩] 77 (0, 0)) := q2
          have BV2 := hide (below_put B2.out g2 hbs B2.out.size)
          have OV2 := hide (O2.out.kept g2 (by
            rcases hv : Value.ownBlock _ with _ | bb
            · exact .inl rfl
            · refine .inr fun e => ?_
              have := own.block bb hv
              simp at e
              omega))
          have czV : V2.cell? ⟨b, off + (i + 2), none⟩ = some (.string z) := by
            have h3 : V2.heap[b]? = w2.heap[b]? := g2.block b (by omega) (by simp; omega)
            unfold World.cell? at cz2 ⊢
            simp only [h3]
            exact cz2
          have u0 := blk_cell q2 0 rfl
          have u1 := blk_cell q2 1 rfl
          have ksz := wd_key hk hyz
          have Q2 := hide q2
          have BZ := hide (bytsR_any z V2 (by omega))
          clear p2 g2 q2 cz2
          go_wp2_with fail
          refine BZ.out.mono ?_
          rintro E w3 ⟨t, e, rfl, hb, b3⟩
          have p3 := (b3.block _ (blk_lt Q2.out)).trans Q2.out
          have O3 := hide (OV2.out.below b3)
          have B3 := hide (BV2.out.trans (b3.mono BV2.out.size))
          have f2 := blk_froz p3 2
          have t2 := blk_cell p3 2 rfl
          have q3 := set_cells p3 2 (.string t)
          have g3 := grown_setCell w3 ⟨wr.heap.size, 2, none⟩ (.string t)
          obtain ⟨V3, hV3⟩ : ∃ V, w3.setCell ⟨wr.heap.size, 2, none⟩ (.string t) = V := ⟨_, rfl⟩
          rw [hV3] at q3 g3
          have q3 : V3.heap[wr.heap.size]? = some (.cells #[.bool true, .string k, .string t] 77 (0, 0)) := q3
          have BV3 := below_put B3.out g3 hbs B3.out.size
          have OV3 := O3.out.kept g3 (by
            rcases hv : Value.ownBlock _ with _ | bb
            · exact .inl rfl
            · refine .inr fun e => ?_
              have := own.block bb hv
              simp at e
              omega)
          have y0 := blk_cell q3 0 rfl
          have y1 := blk_cell q3 1 rfl
          have y2 := blk_cell q3 2 rfl
          clear u0 u1 BZ b3 p3 czV
          rcases hb with ⟨rfl, ht⟩ | ⟨rfl, ht0, hno⟩
          · have tsz := wd_key ht hzz
            clear g3
            have own1 := OV3
            obtain ⟨wd, hwd, szd, bd, own2⟩ := ops_step 77 V3 #[.bool true, .string k, .string t] 1 [⟨true, k, t⟩] rfl rfl (by simp [maxLen])
            have own3 := own1.below bd
            have Bd := BV3.trans (bd.mono BV3.size)
            have NI : Hid (Sct.opw (l ++ [⟨true, k, t⟩]) = (wl ws).take (i + 3) ∧ DelO (l ++ [⟨true, k, t⟩]) ∧ (∀ o ∈ l ++ [(⟨true, k, t⟩ : Bm.Ov)], o.k.size ≤ 65536 ∧ o.v.size ≤ 65536)) := hide ⟨opsR_add I.out.1 (g := [[112, 117, 116], Wm.wd k.data.toList, Wm.wd t.data.toList]) (by rw [WA.out, WY.out, WZ.out, hp', hk, ht]; rfl) (by simp [Sct.opw, Bm.Ov.kl, Bm.Ov.vl]) (by simp), fun o ho hpf => by
              rcases List.mem_append.1 ho with ho | ho
              · exact I.out.2.1 o ho hpf
              · rw [List.mem_singleton.1 ho] at hpf
                simp at hpf, fun o ho => by
              rcases List.mem_append.1 ho with ho | ho
              · exact I.out.2.2 o ho
              · rw [List.mem_singleton.1 ho]
                exact ⟨ksz, tsz⟩⟩
            clear own own1 bd
            go_wp2_with (at_builtin; refine wpList_append_ops rfl (.tmp 56) (.tmp 58) 22 rfl 77 w.heap.size Tryz.underlying22 Tryz.info77 _ l rfl own3 _ [⟨true, k, t⟩] rfl own2.is (by simp; omega) (by have := Bd.size; omega) ?_)
            intro v3 w5 own4 b5 g5
            have B5 := hide (Bd.trans b5)
            clear b5 g5 own2 own3 Bd
            go_wp2
            go_roundw
            case rel => exact ⟨i + 3, _, by omega, by go_num, own4, by simp; omega, NI, B5.out⟩
            case measure => first | (simp [intOf]; done) | (simp [intOf]; omega)
          · have FF := hide (opsE_no (W := wl ws) (fun m hm he => by
              rcases NEXT.out m hm he with ⟨h1, q, q', r, hr⟩ | ⟨h1, q, r, hr⟩
              · rw [WY.out, WZ.out] at hr
                exact hno q' (List.cons.inj (List.cons.inj hr).2).1.symm
              · rw [hp'] at h1
                exact absurd h1 (by decide)) BV3)
            clear own g3 q3 OV3 BV3
            go_wp2
            go_ret2
            exact FF.out
        · have FF := hide (opsE_no (W := wl ws) (fun m hm he => by
            rcases NEXT.out m hm he with ⟨h1, q, q', r, hr⟩ | ⟨h1, q, r, hr⟩
            · rw [WY.out] at hr
              exact hno q (List.cons.inj hr).1.symm
            · rw [hp'] at h1
              exact absurd h1 (by decide)) B2.out)
          clear own p2
          go_wp2
          go_ret2
          exact FF.out
    · have hlt' : ¬ (i : Int) < n := by omega
      obtain rfl : i = n := by omega
      have hW : Sct.opw l = wl ws := by rw [I.out.1, List.take_of_length_le (by unfold wl; rw [List.length_map, HN.out]; exact Nat.le_refl _)]
      have HW := hide hW
      obtain ⟨c, hc⟩ : ∃ c, Bm.chkL l = c := ⟨_, rfl⟩
      have HC := hide hc
      have IS := hide own
      have CH := hide (bcheckR_any _ l wr own.is (fun o ho => by have := I.out.2.2 o ho; omega) (by omega))
      rw [hc] at CH
      have BB := hide bel
      clear hc own hW bel
      go_wp2_with fail
      refine CH.out.mono ?_
      rintro E w2 ⟨rfl, b2⟩
      have IS2 := hide (IS.out.below b2)
      have B2 := hide (BB.out.trans (b2.mono hbs))
      clear b2 CH IS
      cases hq : (c == 0)
      · have hc0 : c ≠ 0 := by simpa using hq
        go_wp2
        go_ret2
        refine ⟨_, l, false, rfl, IS2.out, .inr ⟨rfl, fun m hm he => ?_⟩, B2.out⟩
        have := Sct.opw_inj (Sct.chk_del hm) I.out.2.1 (he.trans HW.out.symm)
        rw [this, HC.out] at hm
        exact hc0 hm
      · have hc0 : c = 0 := by simpa using hq
        go_wp2
        go_ret2
        exact ⟨_, l, true, rfl, IS2.out, .inl ⟨rfl, by rw [HC.out]; exact hc0, HW.out⟩, B2.out⟩

end Go.Proofs.YtdlogcdpapknaaaGreatDoor
