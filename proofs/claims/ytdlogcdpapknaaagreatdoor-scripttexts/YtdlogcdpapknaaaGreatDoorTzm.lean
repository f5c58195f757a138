/- The document's Print (layer 25). -/
import Derived.Test.YtdlogcdpapknaaaGreatDoorZV
import Derived.Test.YtdlogcdpapknaaaGreatDoorScrf
import Derived.Test.YtdlogcdpapknaaaGreatDoorSxv
namespace Go.Proofs.YtdlogcdpapknaaaGreatDoor
open Go.RowKit
set_option linter.unusedVariables false
set_option maxRecDepth 100000

theorem Tryz.enters50 : ∀ args w, (callFunc 50 args).run Tryz.prog w = .ok (.enter 50 args) w := enters_of Tryz.func50 (by kernel_rfl) rfl

/-- What the document's Print gives back. -/
def PrdE (l : List Sct.Av) (w : World) (E : Ending) (w' : World) : Prop := ∃ s p e, E = .returned (.tuple #[.string s, .int .i64 p, .int .i64 e]) ∧ Sct.PrRes l s.data.toList p e ∧ Below w.heap.size w w'

/-- The conversion of one byte. -/
theorem conv_ten {W : World} {g : Nat} (h : W.cell? ⟨g, 0, none⟩ = some (.int .u8 10)) : (convert 60 9 (.slice (some ⟨g, 0, none⟩) 1 1)).run Tryz.prog W = .ok (.string ⟨#[10]⟩) W :=
  run_convert_bytes_arg W 60 5 Tryz.underlying60 Tryz.underlying5 g 0 1 1 [10] rfl (fun i hi => by
    obtain rfl : i = 0 := by omega
    simpa using h) 9 Tryz.underlying9

set_option maxHeartbeats 4000000 in
theorem printR_any (v : Value) (l : List Aw) (w : World) (h : IsAs w v l) (hf : ∀ x ∈ l, FitA x) (hll : l.length ≤ 140737488355328) : Calls Tryz.prog 19 #[v] w (PrdE (l.map Aw.a) w) := by
  have AT := hide (fun W (hW : Below w.heap.size w W) => (h.below hW).at)
  have HF := hide hf
  obtain ⟨oa, oc, rfl, _, _⟩ := h.1.shape
  obtain ⟨n, hn⟩ : ∃ n, l.length = n := ⟨_, rfl⟩
  have HN := hide hn
  have HM : Hid ((l.map Aw.a).length = n) := hide (by rw [List.length_map]; exact hn)
  rw [hn] at hll ⊢
  clear h hf hn
  go_enter Tryz.func19, Tryz.ntmps19
  by_cases h200 : 200 < n
  · have h200' : (200 : Int) < n := by omega
    have FF := hide (show PrdE (l.map Aw.a) w (.returned (.tuple #[.string ⟨#[]⟩, .int .i64 (-1), .int .i64 3])) w from ⟨_, _, _, rfl, .inl ⟨by rw [HM.out]; exact h200, rfl, rfl, rfl⟩, Below.refl _ _⟩)
    go_wp2
    refine bodyPost_ret (v := .tuple #[.string ⟨#[]⟩, .int .i64 (-1), .int .i64 3]) (by simp [results, Tryz.results19, go_sem]) rfl ?_
    exact FF.out
  · have h200' : ¬ (200 : Int) < n := by omega
    go_wp2
    go_loopw [5] (fun iv wr => ∃ i : Nat, i ≤ n ∧ iv = .int .i64 i ∧ Hid (∀ a ∈ (l.map Aw.a).take i, Sct.Ok a) ∧ Below w.heap.size w wr) (fun iv _ => n - (intOf iv).toNat)
    case atStart => exact ⟨0, by omega, rfl, hide (by simp), Below.refl _ _⟩
    case round =>
      obtain ⟨i, hi, rfl, ok, bel⟩ := hrel
      by_cases hlt : i < n
      · have hlt' : (i : Int) < n := by omega
        obtain ⟨b, off, cap, hv, hc⟩ := AT.out wr bel (by have := HN.out; omega)
        rw [HN.out] at hv
        cases hv
        obtain ⟨x, hx⟩ : ∃ x, l[i]? = some x := ⟨l[i]'(by have := HN.out; omega), List.getElem?_eq_getElem _⟩
        obtain ⟨⟨p0, p1, p2, p3, p4, p5⟩, ix⟩ := hc i x hx
        obtain ⟨xo, xc, hxv, _, _⟩ := ix.shape
        rw [hxv] at p5 ix
        obtain ⟨ff, fo, fk⟩ := HF.out x (List.mem_of_getElem? hx)
        have CH := hide (chkR25_any x.a _ wr ix ff (by omega) fk)
        unfold acv acc at CH
        have BL := hide bel
        have mx : (l.map Aw.a)[i]? = some x.a := by rw [List.getElem?_map, hx]; rfl
        have MX := hide mx
        clear hc ix ff fo fk hx mx hxv
        go_wp2_with fail
        refine CH.out.mono ?_
        rintro E w4 ⟨hE, b4⟩
        have BL4 := hide (BL.out.trans (b4.mono BL.out.size))
        clear b4 CH p0 p1 p2 p3 p4 p5
        rcases hE with ⟨okx, rfl⟩ | ⟨nok, rfl⟩
        · have OK7 : Hid (∀ a ∈ (l.map Aw.a).take (i + 1), Sct.Ok a) := hide (by
            rw [List.take_add_one, MX.out]
            intro a ha
            rcases List.mem_append.1 ha with ha | ha
            · exact ok.out a ha
            · rw [List.mem_singleton.1 ha]; exact okx)
          clear ok okx
          go_wp2
          go_roundw
          case rel => exact ⟨i + 1, by omega, by go_num, OK7, BL4.out⟩
          case measure => simp [intOf]; omega
        · have FF := hide (show PrdE (l.map Aw.a) w (.returned (.tuple #[.string ⟨#[]⟩, .int .i64 i, .int .i64 2])) w4 from ⟨_, _, _, rfl, .inr (.inl ⟨by rw [HM.out]; omega, rfl, rfl, i, rfl, ok.out, x.a, MX.out, nok⟩), BL4.out⟩)
          clear ok nok
          go_wp2
          refine bodyPost_ret (v := .tuple #[.string ⟨#[]⟩, .int .i64 i, .int .i64 2]) (by simp [results, Tryz.results19, go_sem]) rfl ?_
          exact FF.out
      · have hlt' : ¬ (i : Int) < n := by omega
        obtain rfl : i = n := by omega
        have hT : (l.map Aw.a).take i = l.map Aw.a := List.take_of_length_le (by rw [HM.out]; exact Nat.le_refl _)
        have OKS : Hid (∀ a ∈ l.map Aw.a, Sct.Ok a) := hide (by have h := ok.out; rw [hT] at h; exact h)
        have BL := hide bel
        clear ok hT bel
        go_wp2
        go_loopw [6, 7] (fun sv kv wr => ∃ (k : Nat) (y : ByteArray), k ≤ i ∧ kv = .int .i64 k ∧ sv = .string y ∧ Hid (y.data.toList = Sct.prn ((l.map Aw.a).take k)) ∧ Below w.heap.size w wr) (fun _ kv _ => i - (intOf kv).toNat)
        case atStart => exact ⟨0, ⟨#[]⟩, by omega, rfl, rfl, hide (by simp [Sct.prn]), BL.out⟩
        case round =>
          obtain ⟨k, y, hk, rfl, rfl, HY, bel⟩ := hrel
          have hbs := bel.size
          have hyz : y.size ≤ 20000000 := by
            have h1 := prn_len ((l.map Aw.a).take k) (fun a ha => OKS.out a (List.mem_of_mem_take ha))
            rw [← HY.out, ← Lib.size_eq] at h1
            have h2 : ((l.map Aw.a).take k).length ≤ 200 := by rw [List.length_take]; omega
            omega
          by_cases hlt2 : k < i
          · have hlt2' : (k : Int) < i := by omega
            obtain ⟨b, off, cap, hv, hc⟩ := AT.out wr bel (by have := HN.out; omega)
            rw [HN.out] at hv
            cases hv
            obtain ⟨x, hx⟩ : ∃ x, l[k]? = some x := ⟨l[k]'(by have := HN.out; omega), List.getElem?_eq_getElem _⟩
            obtain ⟨⟨p0, p1, p2, p3, p4, p5⟩, ix⟩ := hc k x hx
            obtain ⟨xo, xc, hxv, _, _⟩ := ix.shape
            rw [hxv] at p5 ix
            have mx : (l.map Aw.a)[k]? = some x.a := by rw [List.getElem?_map, hx]; rfl
            have okx := OKS.out x.a (List.mem_of_getElem? mx)
            have MX := hide mx
            have hbl : b < wr.heap.size := World.block_lt_of_cell? _ _ p0
            obtain ⟨W1, hW1, s1, b1, P1⟩ := blk_step wr.drew #[.int .u8 10] 5
            have s1' : W1.heap.size = wr.heap.size + 1 := s1
            have B1 : Hid (Below wr.heap.size wr W1) := hide ((Below.refl _ _).drew.trans b1)
            have c1 : W1.cell? ⟨wr.heap.size, 0, none⟩ = some (.int .u8 10) := blk_cell P1 0 rfl
            have cv1 := conv_ten c1
            have m0 := (B1.out.cell (show (⟨b, off + k * 6, none⟩ : Addr).block < wr.heap.size from hbl)).trans p0
            have m1 := (B1.out.cell (show (⟨b, off + k * 6 + 1, none⟩ : Addr).block < wr.heap.size from hbl)).trans p1
            have m2 := (B1.out.cell (show (⟨b, off + k * 6 + 2, none⟩ : Addr).block < wr.heap.size from hbl)).trans p2
            have m3 := (B1.out.cell (show (⟨b, off + k * 6 + 3, none⟩ : Addr).block < wr.heap.size from hbl)).trans p3
            have m4 := (B1.out.cell (show (⟨b, off + k * 6 + 4, none⟩ : Addr).block < wr.heap.size from hbl)).trans p4
            have m5 := (B1.out.cell (show (⟨b, off + k * 6 + 5, none⟩ : Addr).block < wr.heap.size from hbl)).trans p5
            obtain ⟨t, ht⟩ : ∃ t : ByteArray, (⟨(Sct.jn (Sct.txt x.a)).toArray⟩ : ByteArray) = t := ⟨_, rfl⟩
            have htd : t.data.toList = Sct.jn (Sct.txt x.a) := by rw [← ht]
            have htz : t.size ≤ 100000 := by have h1 := txt_jn okx; rw [Lib.size_eq, htd]; omega
            have TX : Hid (∀ W, IsO W (.slice xo x.a.ops.length xc) x.a.ops → Calls Tryz.prog 50 #[.agg #[.int .i64 x.a.k, .int .i64 x.a.u, .int .i64 x.a.n, .int .i64 x.a.t, .string x.a.key, .slice xo x.a.ops.length xc]] W fun E w' => ∃ v, E = .returned v ∧ v = .string t ∧ Below W.heap.size W w') := hide (fun W hW => (textR25_any x.a _ W okx hW).mono (by
              rintro E w' ⟨rfl, hb⟩
              exact ⟨_, rfl, by rw [ht], hb⟩))
            have TX0 := hide (TX.out wr.drew (ix.drewN 1))
            have TX1 := hide (TX.out W1 (ix.below B1.out))
            have HY2 : Hid ((y ++ t ++ ⟨#[10]⟩).data.toList = Sct.prn ((l.map Aw.a).take (k + 1))) := hide (by
              rw [List.take_add_one, MX.out]
              show _ = Sct.prn ((l.map Aw.a).take k ++ [x.a])
              rw [prn_app, ← HY.out, ← htd]
              simp)
            have hc1 : ¬ 9223372036854775807 < y.size + t.size := by omega
            have hc2 : ¬ 9223372036854775807 < y.size + t.size + 1 := by omega
            clear hc ix hx mx hxv ht htd okx TX b1 P1
            go_wp2_with fail
            go_region_law (first
              | (refine call_sx rfl 50 #[.tmp 34] #[24] rfl Tryz.enters50 #[.agg #[.int .i64 x.a.k, .int .i64 x.a.u, .int .i64 x.a.n, .int .i64 x.a.t, .string x.a.key, .slice xo x.a.ops.length xc]] (by first | rfl | (simp [Act.eval]; done) | (simp [Act.eval, Act.put]; done)) TX0.out ?_
                 rintro _ w5 ⟨rfl, b5⟩
                 have B5 := hide ((Below.refl wr.heap.size wr).drew.trans b5)
                 clear b5
                 obtain ⟨w6, hw6, s6, b6, P6⟩ := blk_step w5 #[.int .u8 10] 5
                 have cv6 := conv_ten (blk_cell P6 0 rfl)
                 have B6 := hide (B5.out.trans (b6.mono B5.out.size))
                 clear b6 P6)
              | (refine call_sx rfl 50 #[.tmp 34] #[24] rfl Tryz.enters50 #[.agg #[.int .i64 x.a.k, .int .i64 x.a.u, .int .i64 x.a.n, .int .i64 x.a.t, .string x.a.key, .slice xo x.a.ops.length xc]] (by first | rfl | (simp [Act.eval]; done) | (simp [Act.eval, Act.put]; done)) TX1.out ?_
                 rintro _ w6 ⟨rfl, b6⟩
                 have cv6 := conv_ten ((b6.cell (World.block_lt_of_cell? _ _ c1)).trans c1)
                 have B6 := hide (B1.out.trans (b6.mono B1.out.size))
                 clear b6))
            all_goals
              have B7 := bel.trans (B6.out.mono hbs)
              clear p0 p1 p2 p3 p4 p5 m0 m1 m2 m3 m4 m5
              go_wp2
              go_roundw
              case rel => exact ⟨k + 1, y ++ t ++ ⟨#[10]⟩, by omega, by go_num, rfl, HY2, B7⟩
              case measure => first | (simp [intOf]; done) | (simp [intOf]; omega)
          · have hlt2' : ¬ (k : Int) < i := by omega
            obtain rfl : k = i := by omega
            have hY : y.data.toList = Sct.prn (l.map Aw.a) := by rw [HY.out, List.take_of_length_le (by rw [HM.out]; exact Nat.le_refl _)]
            have hyl : (Sct.prn (l.map Aw.a)).length = y.size := by rw [← hY, Lib.size_eq]
            by_cases hlong : 65536 < y.size
            · have hlong' : (65536 : Int) < y.size := by omega
              have FF := hide (show PrdE (l.map Aw.a) w (.returned (.tuple #[.string ⟨#[]⟩, .int .i64 (-1), .int .i64 3])) wr from ⟨_, _, _, rfl, .inr (.inr (.inl ⟨by rw [HM.out]; omega, OKS.out, by omega, rfl, rfl, rfl⟩)), bel⟩)
              clear hY hyl bel
              go_wp2
              refine bodyPost_ret (v := .tuple #[.string ⟨#[]⟩, .int .i64 (-1), .int .i64 3]) (by simp [results, Tryz.results19, go_sem]) rfl ?_
              exact FF.out
            · have hlong' : ¬ (65536 : Int) < y.size := by omega
              have FF := hide (show PrdE (l.map Aw.a) w (.returned (.tuple #[.string y, .int .i64 0, .int .i64 0])) wr from ⟨_, _, _, rfl, .inr (.inr (.inr ⟨by rw [HM.out]; omega, OKS.out, by omega, hY, rfl, rfl⟩)), bel⟩)
              clear hY hyl bel
              go_wp2
              refine bodyPost_ret (v := .tuple #[.string y, .int .i64 0, .int .i64 0]) (by simp [results, Tryz.results19, go_sem]) rfl ?_
              exact FF.out

end Go.Proofs.YtdlogcdpapknaaaGreatDoor
