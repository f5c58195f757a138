/- The document's Parse, of a Line that answers as it should (layer 25). -/
import Derived.Test.YtdlogcdpapknaaaGreatDoorTzf
import Derived.Test.YtdlogcdpapknaaaGreatDoorSxs
namespace Go.Proofs.YtdlogcdpapknaaaGreatDoor
open Go.RowKit
set_option linter.unusedVariables false
set_option maxRecDepth 100000

/-- What the document's Line gives back. -/
def LnE (L : List UInt8) (w : World) (E : Ending) (w' : World) : Prop := ∃ a v th e, E = .returned (.tuple #[acv a v, .bool th, .int .i64 e]) ∧ OwnO 77 w.heap.size w' v a.ops ∧ Sct.LRes L a th e ∧ Below w.heap.size w w'
/-- What the document's Parse gives back. -/
def ParE (L : List UInt8) (w : World) (E : Ending) (w' : World) : Prop := ∃ v l p e, E = .returned (.tuple #[v, .int .i64 p, .int .i64 e]) ∧ IsAs w' v l ∧ Sct.PRes L (l.map Aw.a) p e ∧ Below w.heap.size w w'

theorem aca_one {x : Aw} (h : x.v.oneCell' = true) : ∀ u ∈ gcells aca [x], u.oneCell' = true := by
  intro u hu
  simp only [gcells, aca, List.append_nil, List.mem_cons, List.not_mem_nil, or_false] at hu
  rcases hu with rfl | rfl | rfl | rfl | rfl | rfl
  all_goals first | rfl | exact h

theorem wpList_append_act {w : World} {ops : Array Oper} {rest : List Oper} {o : Oper} {a : Act} {Q : Exit → Act → World → Prop} (hgd : o.guard = none) (s x : Operand)
    (ho : o.op = .call { callee := .builtin .append, args := #[s, x], argTypes := #[34, 34] }) (base : Nat) (v : Value) (l : List Aw) (hs : a.eval s = v) (hown : OwnAs base w v l) (vx : Value) (y : Aw)
    (hx : a.eval x = vx) (hr : RowG aca w vx [y]) (hyo : OwnO 77 base w y.v y.a.ops) (hone : y.v.oneCell' = true) (hlen : l.length ≤ 1000) (hbase : base ≤ w.heap.size)
    (h : ∀ v' w', OwnAs base w' v' (l ++ [y]) → w.grownBy w' v.ownBlock → wpList Tryz.prog ops Q rest (a.put o.dst v') w') : wpList Tryz.prog ops Q (o :: rest) a w := by
  refine wpList_append_rows aca 6 72 aca_len (by decide) (by decide) (.agg #[.int .i64 0, .int .i64 0, .int .i64 0, .int .i64 0, .string ⟨#[]⟩, .slice none 0 0]) rfl hgd s x 34 ho 24 base Tryz.underlying34 Tryz.info24 v l hs hown.1 vx [y] hx hr (aca_one hone) (by simp only [List.length_cons, List.length_nil]; omega) hbase ?_
  intro v' w' own' hg
  refine h v' w' ⟨own', fun z hz => ?_⟩ hg
  rcases List.mem_append.1 hz with hz | hz
  · exact (hown.2 z hz).apart hown.1 hg
  · rw [List.mem_singleton.1 hz]
    exact hyo.apart hown.1 hg

set_option maxHeartbeats 4000000 in
theorem parseR_of (LINE : ∀ (s : ByteArray) (w : World), s.size ≤ 65536 → Calls Tryz.prog 14 #[.string s] w (LnE s.data.toList w)) (s : ByteArray) (w : World) (hs : s.size ≤ 140737488351232) : Calls Tryz.prog 18 #[.string s] w (ParE s.data.toList w) := by
  have LI := hide LINE
  clear LINE
  have hL : s.data.toList.length = s.size := by rw [Lib.size_eq]
  by_cases h64 : 65536 < s.size
  · have h64' : (65536 : Int) < s.size := by omega
    have FF := hide (show ParE s.data.toList w (.returned (.tuple #[.slice none 0 0, .int .i64 (-1), .int .i64 3])) w from ⟨_, [], -1, 3, rfl, ⟨RowG.nil _ _, fun x hx => by simp at hx⟩, .inl ⟨by omega, rfl, rfl, rfl⟩, Below.refl _ _⟩)
    go_enter Tryz.func18, Tryz.ntmps18
    go_wp2
    refine bodyPost_ret (v := .tuple #[.slice none 0 0, .int .i64 (-1), .int .i64 3]) (by simp [results, Tryz.results18, go_sem]) rfl ?_
    exact FF.out
  · have h64' : ¬ (65536 : Int) < s.size := by omega
    have LR := hide (linesR_any s w (by omega))
    have HS := hide (show s.data.toList.length ≤ 65536 by omega)
    go_enter Tryz.func18, Tryz.ntmps18
    go_wp2_with fail
    refine LR.out.mono ?_
    rintro E w1 ⟨vw, ws, rfl, ownw, hwl, b1⟩
    have HW := hide hwl
    have B1 := hide b1
    have SZ : Hid (∀ x ∈ ws, x.size ≤ 65536) := hide fun x hx => by
      have h1 : x.data.toList ∈ Sct.lns s.data.toList := by rw [← hwl]; exact List.mem_map_of_mem hx
      have h2 : ∀ (l cur : List UInt8), ∀ y ∈ Sct.lnsA cur l, y.length ≤ cur.length + l.length := by
        intro l
        induction l with
        | nil =>
          intro cur y hy
          rw [Sct.lnsA] at hy
          split at hy
          · simp at hy
          · rw [List.mem_singleton.1 hy]; simp
        | cons c r ih =>
          intro cur y hy
          rw [Sct.lnsA] at hy
          split at hy
          · rcases List.mem_cons.1 hy with rfl | hy
            · simp
            · have := ih [] y hy
              simp at this ⊢
              omega
          · have := ih _ y hy
            simp at this ⊢
            omega
      have := h2 _ _ _ h1
      rw [Lib.size_eq]
      simp only [List.length_nil] at this
      have := HS.out
      omega
    have LEN : Hid (ws.length ≤ 65537) := hide (by
      have h1 := congrArg List.length hwl
      unfold wl at h1
      rw [List.length_map] at h1
      have h2 : ∀ (l cur : List UInt8), (Sct.lnsA cur l).length ≤ l.length + 1 := by
        intro l
        induction l with
        | nil => intro cur; rw [Sct.lnsA]; split <;> simp
        | cons c r ih =>
          intro cur
          rw [Sct.lnsA]
          split
          · have := ih []
            simp; omega
          · have := ih (cur ++ [c])
            simp; omega
      have := h2 s.data.toList []
      unfold Sct.lns at h1
      omega)
    have AT := hide (fun W (hW : Below w1.heap.size w1 W) (hne : 0 < ws.length) => (ownw.row.below hW).full fsc_len (by decide) hne)
    obtain ⟨oa, oc, rfl, _, _⟩ := ownw.row.shape
    obtain ⟨n, hn⟩ : ∃ n, ws.length = n := ⟨_, rfl⟩
    have HN := hide hn
    rw [hn] at AT LEN ⊢
    have hlen := LEN.out
    clear ownw hwl b1 hn LR
    go_wp2
    go_loopw [5, 7] (fun ov iv wr => ∃ (i : Nat) (l : List Aw), i ≤ n ∧ iv = .int .i64 i ∧ OwnAs w1.heap.size wr ov l ∧ l.length ≤ 200 ∧ Hid (PPre ((wl ws).take i) (l.map Aw.a)) ∧ Below w1.heap.size w1 wr) (fun _ iv _ => n - (intOf iv).toNat)
    case atStart => exact ⟨0, [], by omega, rfl, OwnAs.nil _ _, by simp, hide PPre.nil, Below.refl _ _⟩
    case round =>
      obtain ⟨i, l, hi, rfl, own, hl2, I, bel⟩ := hrel
      have hbs := bel.size
      obtain ⟨vo, vc, rfl, _, _⟩ := own.1.row.shape
      have BW := hide (B1.out.trans (bel.mono B1.out.size))
      by_cases hlt : i < n
      · have hlt' : (i : Int) < n := by omega
        obtain ⟨b, off, cap, hvv, hc0, hc1, hc2, hc⟩ := AT.out wr bel (by omega)
        cases hvv
        obtain ⟨x, hx⟩ : ∃ x, ws[i]? = some x := ⟨ws[i]'(by have := HN.out; omega), List.getElem?_eq_getElem _⟩
        have cx : wr.cell? ⟨b, off + i, none⟩ = some (.string x) := by simpa using hc i x hx 0 (.string x) rfl
        have WA := hide (wl_at hx)
        have LX := hide (LI.out x wr (SZ.out x (List.mem_of_getElem? hx)))
        have OW := hide own
        have BEL := hide bel
        have HX : Hid ((wl ws).take (i + 1) = (wl ws).take i ++ [x.data.toList]) := hide (by
          have hm : (wl ws)[i]? = some x.data.toList := by unfold wl; rw [List.getElem?_map, hx]; rfl
          rw [List.take_add_one, hm]; rfl)
        have PL : Hid (((wl ws).take i).length = i) := hide (by rw [List.length_take]; unfold wl; rw [List.length_map, HN.out]; omega)
        clear hc hx own bel
        go_wp2_with fail
        refine LX.out.mono ?_
        rintro E w2 ⟨a, va, th, e, rfl, owna, lr, b2⟩
        obtain ⟨ao, ac, rfl, _, _⟩ := owna.is.shape
        unfold acv acc
        obtain ⟨w3, hw3, s3, b3, P3⟩ := blk_step w2 #[.int .i64 a.k, .int .i64 a.u, .int .i64 a.n, .int .i64 a.t, .string a.key, .slice ao a.ops.length ac] 24
        have z := sx_of P3
        obtain ⟨z0, z1, z2, z3, z4, z5⟩ := z
        have p0 := blk_froz P3 0; have p1 := blk_froz P3 1; have p2 := blk_froz P3 2; have p3 := blk_froz P3 3; have p4 := blk_froz P3 4; have p5 := blk_froz P3 5
        have b23 := b2.trans (b3.mono b2.size)
        have OA := hide ((owna.below b3).rebase (base' := w1.heap.size) hbs)
        have O3 := hide (OW.out.below b23)
        have B3 := hide (BW.out.trans (b23.mono BW.out.size))
        have BEL3 := hide (BEL.out.trans (b23.mono hbs))
        have BB3 : Hid (wr.heap.size ≤ w3.heap.size) := hide b23.size
        have LRR := hide lr
        have TK : Hid ((wl ws).take i ++ x.data.toList :: (wl ws).drop (i + 1) = Sct.lns s.data.toList) := hide (by rw [← WA.out, List.take_append_drop]; exact HW.out)
        have NIL := hide (fun (p e : Int) (W : World) (hp : Sct.PRes s.data.toList [] p e) (hb : Below w.heap.size w W) => (show ParE s.data.toList w (.returned (.tuple #[.slice none 0 0, .int .i64 p, .int .i64 e])) W from ⟨_, [], p, e, rfl, ⟨RowG.nil _ _, fun x hx => by simp at hx⟩, hp, hb⟩))
        clear owna lr b2 b3 b23 LX cx
        have cases3 : (th = false ∧ e ≠ 0) ∨ (th = false ∧ e = 0) ∨ (th = true ∧ e = 0) := by
          rcases LRR.out with ⟨_, _, rfl, rfl⟩ | ⟨_, _, _, _, rfl, rfl⟩ | ⟨_, _, _, _, _, rfl, rfl⟩ | ⟨_, _, _, rfl, rfl⟩
          · exact .inl ⟨rfl, by decide⟩
          · exact .inr (.inl ⟨rfl, rfl⟩)
          · exact .inr (.inr ⟨rfl, rfl⟩)
          · exact .inl ⟨rfl, by decide⟩
        rcases cases3 with ⟨rfl, he⟩ | ⟨rfl, rfl⟩ | ⟨rfl, rfl⟩
        · have hq : (e != 0) = true := by simpa using he
          have PR : Hid (Sct.PRes s.data.toList [] i e) := hide (.inr ⟨HS.out, by
            have := I.out (x.data.toList :: (wl ws).drop (i + 1)) [] i e ⟨a, false, e, LRR.out, .inl ⟨he, rfl, by rw [PL.out], rfl⟩⟩
            rw [TK.out] at this
            exact this⟩)
          have FF := hide (NIL.out i e w3 PR.out B3.out)
          clear P3 PR he
          go_wp2
          refine bodyPost_ret (v := .tuple #[.slice none 0 0, .int .i64 i, .int .i64 e]) (by simp [results, Tryz.results18, go_sem]) rfl ?_
          exact FF.out
        · have I2 : Hid (PPre ((wl ws).take (i + 1)) (l.map Aw.a)) := hide (by rw [HX.out]; exact I.out.skip LRR.out)
          clear P3
          go_wp2
          go_roundw
          case rel => exact ⟨i + 1, l, by omega, by go_num, O3.out, hl2, I2, BEL3.out⟩
          case measure => first | (simp [intOf]; done) | (simp [intOf]; omega)
        · by_cases h200 : l.length = 200
          · have hq : ((l.length : Int) == 200) = true := by rw [h200]; rfl
            have PR : Hid (Sct.PRes s.data.toList [] i 3) := hide (.inr ⟨HS.out, by
              have := I.out (x.data.toList :: (wl ws).drop (i + 1)) [] i 3 ⟨a, true, 0, LRR.out, .inr (.inl ⟨rfl, rfl, by rw [List.length_map]; exact h200, rfl, by rw [PL.out], rfl⟩)⟩
              rw [TK.out] at this
              exact this⟩)
            have FF := hide (NIL.out i 3 w3 PR.out B3.out)
            clear P3 PR h200
            go_wp2
            refine bodyPost_ret (v := .tuple #[.slice none 0 0, .int .i64 i, .int .i64 3]) (by simp [results, Tryz.results18, go_sem]) rfl ?_
            exact FF.out
          · have hq : ((l.length : Int) == 200) = false := by simp; omega
            have H200 := hide h200
            have I2 : Hid (PPre ((wl ws).take (i + 1)) ((l ++ [(⟨a, .slice ao a.ops.length ac⟩ : Aw)]).map Aw.a)) := hide (by rw [HX.out, List.map_append]; exact I.out.act LRR.out (by rw [List.length_map]; exact H200.out))
            obtain ⟨w4, hw4, s4, b4, own4⟩ := rows_step aca 6 aca_len 24 w3 #[.int .i64 a.k, .int .i64 a.u, .int .i64 a.n, .int .i64 a.t, .string a.key, .slice ao a.ops.length ac] 1 [⟨a, .slice ao a.ops.length ac⟩] rfl rfl (by simp [maxLen])
            rw [s3] at own4
            have O4 := O3.out.below b4
            have OA4 := OA.out.below b4
            have B4 := BEL3.out.trans (b4.mono BEL3.out.size)
            clear P3 h200 b4
            go_wp2_with (at_builtin; refine wpList_append_act rfl (.tmp 43) (.tmp 45) rfl (w1.heap.size) _ l rfl O4 _ ⟨a, .slice ao a.ops.length ac⟩ rfl own4.row OA4 rfl (by omega) B4.size ?_)
            intro v5 w5 O5 hg5
            have B5 := hide (row_below O4.1 hg5 B4 B4.size (Nat.le_refl _))
            have O5h := hide O5
            clear hg5 O4 OA4 B4 O5 own4
            go_wp2
            go_roundw
            case rel => exact ⟨i + 1, _, by omega, by go_num, O5h.out, by have := H200.out; simp only [List.length_append, List.length_cons, List.length_nil]; omega, I2, B5.out⟩
            case measure => first | (simp [intOf]; done) | (simp [intOf]; omega)
      · have hlt' : ¬ (i : Int) < n := by omega
        obtain rfl : i = n := by omega
        have hT : (wl ws).take i = Sct.lns s.data.toList := by rw [← HW.out, List.take_of_length_le (by unfold wl; rw [List.length_map, HN.out]; exact Nat.le_refl _)]
        have PR : Hid (Sct.PRes s.data.toList (l.map Aw.a) 0 0) := hide (.inr ⟨HS.out, by
          have := I.out [] (l.map Aw.a) 0 0 ⟨rfl, rfl, rfl⟩
          rw [List.append_nil, hT] at this
          exact this⟩)
        have IS := hide own.is
        have BE := hide (B1.out.trans (bel.mono B1.out.size))
        clear own I bel hT
        go_wp2
        refine bodyPost_ret (v := .tuple #[_, .int .i64 0, .int .i64 0]) (by simp [results, Tryz.results18, go_sem]; rfl) rfl ?_
        exact ⟨_, l, 0, 0, rfl, IS.out, PR.out, BE.out⟩

end Go.Proofs.YtdlogcdpapknaaaGreatDoor
