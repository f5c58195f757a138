/- Package script (layer 25): Print. -/
import Derived.Test.YtdlogcdpapknaaaGreatDoorZT
import Derived.Test.YtdlogcdpapknaaaGreatDoorSxn
import Derived.Test.YtdlogcdpapknaaaGreatDoorZH
import Derived.Test.YtdlogcdpapknaaaGreatDoorShelf
import Derived.Shelf.Strings.BuilderK
namespace Go.Proofs.YtdlogcdpapknaaaGreatDoor
open Go.RowKit
set_option linter.unusedVariables false
set_option maxRecDepth 100000

/-- (*strings.Builder).WriteString. -/
theorem wstr_any (B b : Nat) (l : List UInt8) (s : ByteArray) (w : World) (h : Lib.IsBuilderF 62 5 B b (Lib.byteCells l) w) (hlen : l.length + s.size ≤ 140737488355328) (hBw : B ≤ w.heap.size) :
    Calls Tryz.prog 27 #[.pointer (some ⟨b, 0, none⟩), .string s] w fun E w' => E = .returned (.tuple #[.int .i64 s.size, .nilIface]) ∧ Lib.IsBuilderF 62 5 B b (Lib.byteCells (l ++ s.data.toList)) w' ∧ Below B w w' := by
  have := Any.Builder_WriteString_k (ρ := Tryz.lays105_ren) { Tryz.lays105 with } Tryz.Builder_Extra_105 B b (Lib.byteCells l) s w h (by rw [Lib.byteCells_length]; exact hlen) hBw
  refine this.mono ?_
  rintro E w' ⟨rfl, h1, h2, _⟩
  refine ⟨rfl, .inr ?_, h2⟩
  rw [Lib.byteCells_append]
  rw [Lib.strCells_eq] at h1
  exact h1

theorem bld_below {T e : TypeId} {B b : Nat} {p : Value} {bs : List Value} {w w' : World} (h : Lib.BuilderAtF T e B b p bs w) (hb : Below w.heap.size w w') : Lib.BuilderAtF T e B b p bs w' := by
  have hlt := h.lt
  obtain ⟨hB, v, hv, hown, hne⟩ := h
  refine ⟨hB, v, (hb.block b hlt).trans hv, ⟨hown.1, ?_⟩, hne⟩
  rcases hown.2 with h0 | ⟨g, cap, cur, fz, rfl, h1, hh, r⟩
  · exact .inl h0
  · exact .inr ⟨g, cap, cur, fz, rfl, h1, (hb.block g (Array.getElem?_eq_some_iff.1 hh).1).trans hh, r⟩
theorem isb_below {T e : TypeId} {B b : Nat} {bs : List Value} {w w' : World} (h : Lib.IsBuilderF T e B b bs w) (hb : Below w.heap.size w w') : Lib.IsBuilderF T e B b bs w' :=
  h.elim (fun x => .inl (bld_below x hb)) (fun x => .inr (bld_below x hb))

theorem prn_app : ∀ (l : List Sct.Av) (a : Sct.Av), Sct.prn (l ++ [a]) = Sct.prn l ++ (Sct.jn (Sct.txt a) ++ [10])
  | [], a => by simp [Sct.prn]
  | b :: r, a => by
    show Sct.jn (Sct.txt b) ++ 10 :: Sct.prn (r ++ [a]) = (Sct.jn (Sct.txt b) ++ 10 :: Sct.prn r) ++ _
    rw [prn_app r a]
    simp
theorem txt_jn {a : Sct.Av} (h : Sct.Ok a) : (Sct.jn (Sct.txt a)).length ≤ 8040 := by
  obtain ⟨h1, h2⟩ := txt_len h
  have := jn_len _ h2
  omega
theorem prn_len : ∀ l : List Sct.Av, (∀ a ∈ l, Sct.Ok a) → (Sct.prn l).length ≤ 8041 * l.length
  | [], _ => by simp [Sct.prn]
  | a :: r, h => by
    have h1 := txt_jn (h a (by simp))
    have h2 := prn_len r fun b hb => h b (by simp [hb])
    show (Sct.jn (Sct.txt a) ++ 10 :: Sct.prn r).length ≤ _
    simp only [List.length_append, List.length_cons] at h2 ⊢
    omega

theorem IsAs.at {w : World} {v : Value} {l : List Aw} (h : IsAs w v l) (hne : 0 < l.length) : ∃ b off cap, v = .slice (some ⟨b, off, none⟩) l.length cap ∧ ∀ i y, l[i]? = some y → (w.cell? ⟨b, off + i * 6, none⟩ = some (.int .i64 y.a.k) ∧ w.cell? ⟨b, off + i * 6 + 1, none⟩ = some (.int .i64 y.a.u) ∧ w.cell? ⟨b, off + i * 6 + 2, none⟩ = some (.int .i64 y.a.n) ∧ w.cell? ⟨b, off + i * 6 + 3, none⟩ = some (.int .i64 y.a.t) ∧ w.cell? ⟨b, off + i * 6 + 4, none⟩ = some (.string y.a.key) ∧ w.cell? ⟨b, off + i * 6 + 5, none⟩ = some y.v) ∧ IsO w y.v y.a.ops := by
  obtain ⟨b, off, cap, hv, _, _, _, hc⟩ := h.1.full aca_len (by decide) hne
  refine ⟨b, off, cap, hv, fun i y hy => ⟨⟨?_, ?_, ?_, ?_, ?_, ?_⟩, h.2 y (List.mem_of_getElem? hy)⟩⟩
  · exact hc i y hy 0 _ rfl
  · exact hc i y hy 1 _ rfl
  · exact hc i y hy 2 _ rfl
  · exact hc i y hy 3 _ rfl
  · exact hc i y hy 4 _ rfl
  · exact hc i y hy 5 _ rfl

/-- What Print gives back. -/
def PrR (w : World) (l : List Sct.Av) (E : Ending) (w' : World) : Prop := ∃ s v p e, E = .returned (.tuple #[.string s, v]) ∧ ErrV w' v p e ∧ Sct.PrRes l s.data.toList p e ∧ Below w.heap.size w w'

/-- An act that lies, fit to be read. -/
def FitA (x : Aw) : Prop := FitO x.a.ops ∧ x.a.ops.length ≤ 140737488355328 ∧ x.a.key.size ≤ 140737488351232

set_option maxHeartbeats 4000000 in
theorem print_any (v : Value) (l : List Aw) (w : World) (hv : Vs w) (h : IsAs w v l) (hf : ∀ x ∈ l, FitA x) (hll : l.length ≤ 140737488355328) : Calls Tryz.prog 9 #[v] w (PrR w (l.map Aw.a)) := by
  have AT := hide (fun W (hW : Below w.heap.size w W) => (h.below hW).at)
  have V0 := hide hv
  have HF := hide hf
  obtain ⟨oa, oc, rfl, _, _⟩ := h.1.shape
  obtain ⟨n, hn⟩ : ∃ n, l.length = n := ⟨_, rfl⟩
  have HN := hide hn
  have HM : Hid ((l.map Aw.a).length = n) := hide (by rw [List.length_map]; exact hn)
  rw [hn] at hll ⊢
  obtain ⟨W, hW, sW, bW, ab⟩ := blk_step w #[.pointer none, .slice none 0 0] 62
  have IB : Lib.IsBuilderF 62 5 w.heap.size w.heap.size (Lib.byteCells []) W := by rw [← hW]; exact Lib.IsBuilderF.of (Lib.fresh_isBuilder _ _ w)
  have c0 := blk_cell ab 0 rfl
  have c1 := blk_cell ab 1 rfl
  have f0 := blk_froz ab 0
  have f1 := blk_froz ab 1
  clear h hf hv hn
  go_enter Tryz.func9, Tryz.ntmps9
  by_cases h200 : 200 < n
  · have h200' : (200 : Int) < n := by omega
    have RF := hide (refused_any (-1) 3 w (by decide))
    clear hW c0 c1 f0 f1 IB ab
    go_wp2_with fail
    refine RF.out.mono ?_
    rintro E w2 ⟨v2, rfl, ev, b2⟩
    have FF := hide (show PrR w (l.map Aw.a) (.returned (.tuple #[.string ⟨#[]⟩, v2])) w2 from ⟨_, _, _, _, rfl, ev, .inl ⟨by rw [HM.out]; exact h200, rfl, rfl, rfl⟩, b2⟩)
    clear ev b2
    go_wp2
    refine bodyPost_ret (v := .tuple #[.string ⟨#[]⟩, v2]) (by simp [results, Tryz.results9, go_sem]) rfl ?_
    exact FF.out
  · have h200' : ¬ (200 : Int) < n := by omega
    clear c0 c1 f0 f1 ab
    go_wp2
    go_loopw [14] (fun iv wr => ∃ i : Nat, i ≤ n ∧ iv = .int .i64 i ∧ Lib.IsBuilderF 62 5 w.heap.size w.heap.size (Lib.byteCells (Sct.prn ((l.map Aw.a).take i))) wr ∧ (∀ a ∈ (l.map Aw.a).take i, Sct.Ok a) ∧ Below w.heap.size w wr) (fun iv _ => n - (intOf iv).toNat)
    case atStart => exact ⟨0, by omega, rfl, by simpa [Sct.prn] using IB, by simp, bW⟩
    case round =>
      obtain ⟨i, hi, rfl, ib, ok, bel⟩ := hrel
      by_cases hlt : i < n
      · have hlt' : (i : Int) < n := by omega
        obtain ⟨b, off, cap, hv, hc⟩ := AT.out wr bel (by have := HN.out; omega)
        rw [HN.out] at hv
        cases hv
        obtain ⟨x, hx⟩ : ∃ x, l[i]? = some x := ⟨l[i]'(by have := HN.out; omega), List.getElem?_eq_getElem _⟩
        obtain ⟨⟨p0, p1, p2, p3, p4, p5⟩, ix⟩ := hc i x hx
        obtain ⟨xo, xc, hxv, _, _⟩ := ix.shape
        rw [hxv] at p5 ix
        obtain ⟨w3, hw3, s3, b3, P3⟩ := blk_step wr #[.int .i64 x.a.k, .int .i64 x.a.u, .int .i64 x.a.n, .int .i64 x.a.t, .string x.a.key, .slice xo x.a.ops.length xc] 24
        obtain ⟨ff, fo, fk⟩ := HF.out x (List.mem_of_getElem? hx)
        have ix3 := ix.below b3
        have CH := hide (chkP_any x.a _ w3 ix3 ff fo fk)
        unfold acv acc at CH
        have IB3 := hide (isb_below ib b3)
        have IX3 := hide ix3
        have bws := bel.size
        have BL3 := hide (bel.trans (b3.mono bws))
        have P3h := hide P3
        have Q3 := sx_of P3
        obtain ⟨a0, a1, a2, a3, a4, a5⟩ := Q3
        have g0 := blk_froz P3 0; have g1 := blk_froz P3 1; have g2 := blk_froz P3 2; have g3 := blk_froz P3 3; have g4 := blk_froz P3 4; have g5 := blk_froz P3 5
        have x0 := set_same P3 (j := 0) (u := .int .i64 x.a.k) rfl; have x1 := set_same P3 (j := 1) (u := .int .i64 x.a.u) rfl; have x2 := set_same P3 (j := 2) (u := .int .i64 x.a.n) rfl; have x3 := set_same P3 (j := 3) (u := .int .i64 x.a.t) rfl; have x4 := set_same P3 (j := 4) (u := .string x.a.key) rfl; have x5 := set_same P3 (j := 5) (u := .slice xo x.a.ops.length xc) rfl
        have OKS := hide ok
        have HX := hide hx
        have mx : (l.map Aw.a)[i]? = some x.a := by rw [List.getElem?_map, hx]; rfl
        have MX := hide mx
        clear hc ix ix3 ib b3 P3 ff fo fk ok hx mx hxv
        go_wp2_with fail
        refine CH.out.mono ?_
        rintro E w4 ⟨hE, b4⟩
        rcases hE with ⟨okx, rfl⟩ | ⟨nok, rfl⟩
        · have V4 := hide (V0.out.below (BL3.out.trans (b4.mono BL3.out.size)))
          have P4 := (b4.block _ (blk_lt P3h.out)).trans P3h.out
          have TX := hide (textOf_any x.a _ w4 V4.out okx (IX3.out.below b4))
          unfold acv acc at TX
          have IB4 := hide (isb_below IB3.out b4)
          have BL4 := hide (BL3.out.trans (b4.mono BL3.out.size))
          have OKX := hide okx
          clear a0 a1 a2 a3 a4 a5 g0 g1 g2 g3 g4 g5 x0 x1 x2 x3 x4 x5 p0 p1 p2 p3 p4 p5
          have Q4 := sx_of P4
          obtain ⟨a0, a1, a2, a3, a4, a5⟩ := Q4
          clear P4 b4 okx CH
          go_wp2_with fail
          refine TX.out.mono ?_
          rintro E w5 ⟨rfl, b5⟩
          have IB5 := isb_below IB4.out b5
          have BL5 := BL4.out.trans (b5.mono BL4.out.size)
          have hs5 := BL5.size
          have hpl := prn_len _ OKS.out
          have htl := txt_jn OKX.out
          have htk : ((l.map Aw.a).take i).length ≤ 200 := by rw [List.length_take]; omega
          obtain ⟨t, ht⟩ : ∃ t, (⟨(Sct.jn (Sct.txt x.a)).toArray⟩ : ByteArray) = t := ⟨_, rfl⟩
          have htd : t.data.toList = Sct.jn (Sct.txt x.a) := by rw [← ht]
          have hts : t.size = (Sct.jn (Sct.txt x.a)).length := by rw [Lib.size_eq, htd]
          rw [ht]
          have WS := hide (wstr_any w.heap.size w.heap.size _ t w5 IB5 (by omega) hs5)
          have BL5' := hide BL5
          clear ht b5 IB5 BL5 a0 a1 a2 a3 a4 a5
          go_wp2_with fail
          refine WS.out.mono ?_
          rintro E w6 ⟨rfl, ib6, b6⟩
          have BL6 := hide (BL5'.out.trans b6)
          have hs6 := BL6.out.size
          have WS2 := hide (wstr_any w.heap.size w.heap.size _ ⟨#[10]⟩ w6 ib6 (by rw [List.length_append, htd]; show _ + 1 ≤ _; omega) hs6)
          clear b6 ib6 WS
          go_wp2_with fail
          refine WS2.out.mono ?_
          rintro E w7 ⟨rfl, ib7, b7⟩
          have BL7 := hide (BL6.out.trans b7)
          have htk2 : (l.map Aw.a).take (i + 1) = (l.map Aw.a).take i ++ [x.a] := by rw [List.take_add_one, MX.out]; rfl
          have IB7 : Hid (Lib.IsBuilderF 62 5 w.heap.size w.heap.size (Lib.byteCells (Sct.prn ((l.map Aw.a).take (i + 1)))) w7) := hide (by
            rw [htk2, prn_app, ← htd, ← List.append_assoc]
            exact ib7)
          have OK7 : Hid (∀ a ∈ (l.map Aw.a).take (i + 1), Sct.Ok a) := hide (by
            rw [htk2]
            intro a ha
            rcases List.mem_append.1 ha with ha | ha
            · exact OKS.out a ha
            · rw [List.mem_singleton.1 ha]; exact OKX.out)
          clear b7 ib7 WS2 htk2
          go_wp2
          go_roundw
          case rel => exact ⟨i + 1, by omega, by go_num, IB7.out, OK7.out, BL7.out⟩
          case measure => simp [intOf]; omega
        · have RF := hide (refused_any i 2 w4 (by decide))
          have BL4 := hide (BL3.out.trans (b4.mono BL3.out.size))
          have NOK := hide nok
          clear a0 a1 a2 a3 a4 a5 g0 g1 g2 g3 g4 g5 x0 x1 x2 x3 x4 x5 p0 p1 p2 p3 p4 p5 b4 nok
          go_wp2_with fail
          refine RF.out.mono ?_
          rintro E w5 ⟨v5, rfl, ev, b5⟩
          have FF := hide (show PrR w (l.map Aw.a) (.returned (.tuple #[.string ⟨#[]⟩, v5])) w5 from ⟨_, _, _, _, rfl, ev, .inr (.inl ⟨by rw [HM.out]; omega, rfl, rfl, i, rfl, OKS.out, x.a, MX.out, NOK.out⟩), BL4.out.trans (b5.mono BL4.out.size)⟩)
          clear ev b5
          go_wp2
          refine bodyPost_ret (v := .tuple #[.string ⟨#[]⟩, v5]) (by simp [results, Tryz.results9, go_sem]) rfl ?_
          exact FF.out
      · have hlt' : ¬ (i : Int) < n := by omega
        obtain rfl : i = n := by omega
        have hT : (l.map Aw.a).take i = l.map Aw.a := List.take_of_length_le (by rw [HM.out]; exact Nat.le_refl _)
        rw [hT] at ib ok
        obtain ⟨m, hm⟩ : ∃ m, (Sct.prn (l.map Aw.a)).length = m := ⟨_, rfl⟩
        have HL := hide hm
        have LN : Hid (Calls Tryz.prog 29 #[.pointer (some ⟨w.heap.size, 0, none⟩)] wr fun E w' => E = .returned (.int .i64 m) ∧ wr = w') := hide (by
          refine (Tryz.Builder_Len_f _ _ _ wr ib).mono ?_
          rintro E w' ⟨rfl, rfl⟩
          rw [Lib.byteCells_length, hm]
          exact ⟨rfl, rfl⟩)
        have BS := hide (Tryz.Builder_String_any_k _ _ _ wr ib bel.size)
        have OKS := hide ok
        have BEL := hide bel
        clear ib ok hT hm bel
        go_wp2_with fail
        refine LN.out.mono ?_
        rintro E w2 ⟨rfl, rfl⟩
        clear LN
        by_cases hml : 65536 < m
        · have hml' : (65536 : Int) < m := by omega
          have RF := hide (refused_any (-1) 3 wr (by decide))
          clear BS
          go_wp2_with fail
          refine RF.out.mono ?_
          rintro E w5 ⟨v5, rfl, ev, b5⟩
          have FF := hide (show PrR w (l.map Aw.a) (.returned (.tuple #[.string ⟨#[]⟩, v5])) w5 from ⟨_, _, _, _, rfl, ev, .inr (.inr (.inl ⟨by rw [HM.out]; omega, OKS.out, by rw [HL.out]; exact hml, rfl, rfl, rfl⟩)), BEL.out.trans (b5.mono BEL.out.size)⟩)
          clear ev b5
          go_wp2
          refine bodyPost_ret (v := .tuple #[.string ⟨#[]⟩, v5]) (by simp [results, Tryz.results9, go_sem]) rfl ?_
          exact FF.out
        · have hml' : ¬ (65536 : Int) < m := by omega
          go_wp2_with fail
          refine BS.out.mono ?_
          rintro E w3 ⟨rfl, _, b3, _⟩
          have FF := hide (show PrR w (l.map Aw.a) (.returned (.tuple #[.string ⟨(Sct.prn (l.map Aw.a)).toArray⟩, .nilIface])) w3 from ⟨_, _, _, _, rfl, .inl ⟨rfl, rfl⟩, .inr (.inr (.inr ⟨by rw [HM.out]; omega, OKS.out, by rw [HL.out]; omega, rfl, rfl, rfl⟩)), BEL.out.trans b3⟩)
          clear b3 BS
          go_wp2
          refine bodyPost_ret (v := .tuple #[.string ⟨(Sct.prn (l.map Aw.a)).toArray⟩, .nilIface]) (by simp [results, Tryz.results9, go_sem]) rfl ?_
          exact FF.out

end Go.Proofs.YtdlogcdpapknaaaGreatDoor
