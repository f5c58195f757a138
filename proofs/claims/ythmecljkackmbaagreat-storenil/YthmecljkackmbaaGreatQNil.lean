/- Texts of one layer, one behind the other. -/
import Derived.Test.YthmecljkackmbaaGreatGK6
import Derived.Test.YthmecljkackmbaaGreatGK4
import Derived.Test.YthmecljkackmbaaGreatProg
import Derived.Deep.CutRange
import Derived.Test.YthmecljkackmbaaGreatRows
import Derived.ProofKit
import Derived.OpenShut
import Derived.ShutString
import Derived.ChangeOld
import Derived.Below
import Derived.SizedLaws
import Derived.Test.YthmecljkackmbaaGreatGFr
/- A store that is none, or that nobody made. -/
namespace Go.Proofs.YthmecljkackmbaaGreat
open Go.RowKit
open Bm (Ov)
set_option linter.unusedVariables false

/-- None, or nobody's. -/
def NoS (w : World) (v : Value) : Prop := v = .pointer none ∨ ∃ p, v = .pointer (some ⟨p, 0, none⟩) ∧ w.heap[p]? = some (.cells #[.pointer none, .slice none 0 0, .pointer none] 66 (0, 0))

theorem NoS.below {w w' : World} {v : Value} (h : NoS w v) (hb : Below w.heap.size w w') : NoS w' v := by
  rcases h with h | ⟨p, h1, h2⟩
  · exact .inl h
  · exact .inr ⟨p, h1, (hb.block p (blk_lt h2)).trans h2⟩

theorem NoS.form {w : World} {v : Value} (h : NoS w v) : ∃ a, v = .pointer a := by
  rcases h with rfl | ⟨p, rfl, _⟩
  · exact ⟨_, rfl⟩
  · exact ⟨_, rfl⟩

theorem sready_no (w : World) (v : Value) (h : NoS w v) : Calls Tryz.prog 48 #[v] w fun E w' => E = .returned (.bool false) ∧ w = w' := by
  rcases h with rfl | ⟨p, rfl, hB⟩
  · go_enter Tryz.func48, Tryz.ntmps48
    go_wp2
    go_ret
    exact ⟨rfl, rfl⟩
  · have c0 : w.cell? ⟨p, 0, none⟩ = some (.pointer none) := blk_cell hB 0 rfl
    clear hB
    go_enter Tryz.func48, Tryz.ntmps48
    go_wp2
    go_ret
    exact ⟨rfl, rfl⟩

theorem sapply_no (w : World) (v : Value) (e n : Int) (vo : Value) (ho : ∃ a k c, vo = .slice a k c) (h : NoS w v) : Calls Tryz.prog 34 #[v, .agg #[.int .i64 e, .int .i64 n, vo]] w fun E w' => E = .returned (.int .i64 1) ∧ Below w.heap.size w w' := by
  obtain ⟨w1, hw1, sz1, bel1, hB⟩ := blk_step w #[.int .i64 e, .int .i64 n, vo] 55
  have HM := hide (sready_no w1 v (h.below bel1))
  obtain ⟨a, rfl⟩ := h.form
  obtain ⟨xa, xk, xc, rfl⟩ := ho
  clear h hB
  go_enter Tryz.func34, Tryz.ntmps34
  go_wp2_with fail
  refine HM.out.mono ?_
  rintro E w2 ⟨rfl, rfl⟩
  go_wp2
  go_ret
  exact ⟨rfl, bel1⟩

theorem sflush_no (w : World) (v : Value) (n : Int) (h : NoS w v) : Calls Tryz.prog 12 #[v, .int .i64 n] w fun E w' => E = .returned (.int .i64 1) ∧ w = w' := by
  have HM := hide (sready_no w v h)
  obtain ⟨a, rfl⟩ := h.form
  clear h
  go_enter Tryz.func12, Tryz.ntmps12
  go_wp2_with fail
  refine HM.out.mono ?_
  rintro E w2 ⟨rfl, rfl⟩
  go_wp2
  go_ret
  exact ⟨rfl, rfl⟩

theorem sEnd_no (w : World) (v : Value) (h : NoS w v) : Calls Tryz.prog 35 #[v] w fun E w' => E = .returned (.int .i64 0) ∧ w = w' := by
  have HM := hide (sready_no w v h)
  obtain ⟨a, rfl⟩ := h.form
  clear h
  go_enter Tryz.func35, Tryz.ntmps35
  go_wp2_with fail
  refine HM.out.mono ?_
  rintro E w2 ⟨rfl, rfl⟩
  go_wp2
  go_ret
  exact ⟨rfl, rfl⟩

theorem sRest_no (w : World) (v : Value) (h : NoS w v) : Calls Tryz.prog 13 #[v] w fun E w' => E = .returned (.int .i64 0) ∧ w = w' := by
  have HM := hide (sready_no w v h)
  obtain ⟨a, rfl⟩ := h.form
  clear h
  go_enter Tryz.func13, Tryz.ntmps13
  go_wp2_with fail
  refine HM.out.mono ?_
  rintro E w2 ⟨rfl, rfl⟩
  go_wp2
  go_ret
  exact ⟨rfl, rfl⟩

theorem sget_no (w : World) (v : Value) (k : ByteArray) (h : NoS w v) : Calls Tryz.prog 14 #[v, .string k] w fun E w' => E = .returned (.tuple #[.string ⟨#[]⟩, .bool false]) ∧ w = w' := by
  have HM := hide (sready_no w v h)
  obtain ⟨a, rfl⟩ := h.form
  clear h
  go_enter Tryz.func14, Tryz.ntmps14
  go_wp2_with fail
  refine HM.out.mono ?_
  rintro E w2 ⟨rfl, rfl⟩
  go_wp2
  go_ret2
  exact ⟨rfl, rfl⟩

theorem sAll_no (w : World) (v : Value) (h : NoS w v) : Calls Tryz.prog 82 #[v] w fun E w' => ∃ A B, E = .returned (.func (.func 147) #[] #[.pointer (some ⟨A, 0, none⟩), .pointer (some ⟨B, 0, none⟩)]) ∧ SeqS A B w.heap.size w' [] [] ∧ Below w.heap.size w w' := by
  obtain ⟨w1, hw1, sz1, b1, B1⟩ := blk_step w #[.slice none 0 0] 69
  obtain ⟨w2, hw2, sz2, b2, B2⟩ := blk_step w1 #[.slice none 0 0] 53
  rw [sz1] at B2
  have b02 := b1.trans (b2.mono b1.size)
  have HM := hide (sready_no w2 v (h.below b02))
  have FIN : Hid (SeqS w.heap.size (w.heap.size + 1) w.heap.size w2 [] [] ∧ Below w.heap.size w w2) := hide ⟨⟨_, [], _, Nat.le_refl _, by omega, (b2.block w.heap.size (by omega)).trans B1, B2, Rq.nil _ _, OwnO.nil _ _ _⟩, b02⟩
  obtain ⟨a, rfl⟩ := h.form
  clear h b1 b2 B1 B2 b02
  go_enter Tryz.func82, Tryz.ntmps82
  go_wp2_with fail
  refine HM.out.mono ?_
  rintro E w3 ⟨rfl, rfl⟩
  go_wp2
  go_ret
  exact ⟨_, _, rfl, FIN.out⟩

theorem sall_no (w : World) (v : Value) (n : Nat) (h : NoS w v) : Calls Tryz.prog 31 #[v, .int .i64 n] w fun E w' => (∃ a k, E = .returned (.slice a 0 k)) ∧ Below w.heap.size w w' := by
  refine (sall_of v w [] [] n (fun o ho => by simp at ho) (by simp) fun w1 hb => sAll_no w1 v (h.below hb)).mono ?_
  rintro E w' ⟨u, rfl, o1, b1⟩
  obtain ⟨a, k, hu, _, _⟩ := o1.is.shape
  refine ⟨⟨a, k, ?_⟩, b1⟩
  rw [hu]
  have e : (Tm.live (fldS [] [])).take n = [] := by
    rw [show Tm.live (fldS [] []) = [] from rfl]
    simp
  rw [e]
  rfl

end Go.Proofs.YthmecljkackmbaaGreat

/- The steps of a region of StoreNil's. -/
namespace Go.Proofs.YthmecljkackmbaaGreat
open Go.RowKit
set_option linter.unusedVariables false

theorem wzc_new : Array.replicate 48 false = lst 48 0 := by kernel_rfl

theorem wzc_size : (regOf 6 Tryz.f5).size = 48 := by kernel_rfl

theorem wzc_t0_0 : Region.free .any (regOf 6 Tryz.f5) (lst 48 0) 0 = true ∧ (Region.ready .any (regOf 6 Tryz.f5) (lst 48 0)).contains 0 = true ∧ (lst 48 0).setIfInBounds 0 true = lst 48 1 := ⟨by kernel_rfl, by kernel_rfl, by kernel_rfl⟩

theorem wzc_t1_1 : Region.free .any (regOf 6 Tryz.f5) (lst 48 1) 1 = true ∧ (Region.ready .any (regOf 6 Tryz.f5) (lst 48 1)).contains 1 = true ∧ (lst 48 1).setIfInBounds 1 true = lst 48 3 := ⟨by kernel_rfl, by kernel_rfl, by kernel_rfl⟩

theorem wzc_t3_2 : Region.free .any (regOf 6 Tryz.f5) (lst 48 3) 2 = true ∧ (Region.ready .any (regOf 6 Tryz.f5) (lst 48 3)).contains 2 = true ∧ (lst 48 3).setIfInBounds 2 true = lst 48 7 := ⟨by kernel_rfl, by kernel_rfl, by kernel_rfl⟩

theorem wzc_t7_3 : Region.free .any (regOf 6 Tryz.f5) (lst 48 7) 3 = true ∧ (Region.ready .any (regOf 6 Tryz.f5) (lst 48 7)).contains 3 = true ∧ (lst 48 7).setIfInBounds 3 true = lst 48 15 := ⟨by kernel_rfl, by kernel_rfl, by kernel_rfl⟩

theorem wzc_t15_4 : Region.free .any (regOf 6 Tryz.f5) (lst 48 15) 4 = true ∧ (Region.ready .any (regOf 6 Tryz.f5) (lst 48 15)).contains 4 = true ∧ (lst 48 15).setIfInBounds 4 true = lst 48 31 := ⟨by kernel_rfl, by kernel_rfl, by kernel_rfl⟩

theorem wzc_r31 : Region.ready .any (regOf 6 Tryz.f5) (lst 48 31) = [5] ∧ (lst 48 31).setIfInBounds 5 true = lst 48 63 := ⟨by kernel_rfl, by kernel_rfl⟩

theorem wzc_t63_6 : Region.free .any (regOf 6 Tryz.f5) (lst 48 63) 6 = true ∧ (Region.ready .any (regOf 6 Tryz.f5) (lst 48 63)).contains 6 = true ∧ (lst 48 63).setIfInBounds 6 true = lst 48 127 := ⟨by kernel_rfl, by kernel_rfl, by kernel_rfl⟩

theorem wzc_t127_7 : Region.free .any (regOf 6 Tryz.f5) (lst 48 127) 7 = true ∧ (Region.ready .any (regOf 6 Tryz.f5) (lst 48 127)).contains 7 = true ∧ (lst 48 127).setIfInBounds 7 true = lst 48 255 := ⟨by kernel_rfl, by kernel_rfl, by kernel_rfl⟩

theorem wzc_t255_8 : Region.free .any (regOf 6 Tryz.f5) (lst 48 255) 8 = true ∧ (Region.ready .any (regOf 6 Tryz.f5) (lst 48 255)).contains 8 = true ∧ (lst 48 255).setIfInBounds 8 true = lst 48 511 := ⟨by kernel_rfl, by kernel_rfl, by kernel_rfl⟩

theorem wzc_t511_9 : Region.free .any (regOf 6 Tryz.f5) (lst 48 511) 9 = true ∧ (Region.ready .any (regOf 6 Tryz.f5) (lst 48 511)).contains 9 = true ∧ (lst 48 511).setIfInBounds 9 true = lst 48 1023 := ⟨by kernel_rfl, by kernel_rfl, by kernel_rfl⟩

theorem wzc_t1023_10 : Region.free .any (regOf 6 Tryz.f5) (lst 48 1023) 10 = true ∧ (Region.ready .any (regOf 6 Tryz.f5) (lst 48 1023)).contains 10 = true ∧ (lst 48 1023).setIfInBounds 10 true = lst 48 2047 := ⟨by kernel_rfl, by kernel_rfl, by kernel_rfl⟩

theorem wzc_t2047_11 : Region.free .any (regOf 6 Tryz.f5) (lst 48 2047) 11 = true ∧ (Region.ready .any (regOf 6 Tryz.f5) (lst 48 2047)).contains 11 = true ∧ (lst 48 2047).setIfInBounds 11 true = lst 48 4095 := ⟨by kernel_rfl, by kernel_rfl, by kernel_rfl⟩

theorem wzc_t4095_12 : Region.free .any (regOf 6 Tryz.f5) (lst 48 4095) 12 = true ∧ (Region.ready .any (regOf 6 Tryz.f5) (lst 48 4095)).contains 12 = true ∧ (lst 48 4095).setIfInBounds 12 true = lst 48 8191 := ⟨by kernel_rfl, by kernel_rfl, by kernel_rfl⟩

theorem wzc_r8191 : Region.ready .any (regOf 6 Tryz.f5) (lst 48 8191) = [13] ∧ (lst 48 8191).setIfInBounds 13 true = lst 48 16383 := ⟨by kernel_rfl, by kernel_rfl⟩

theorem wzc_t16383_14 : Region.free .any (regOf 6 Tryz.f5) (lst 48 16383) 14 = true ∧ (Region.ready .any (regOf 6 Tryz.f5) (lst 48 16383)).contains 14 = true ∧ (lst 48 16383).setIfInBounds 14 true = lst 48 32767 := ⟨by kernel_rfl, by kernel_rfl, by kernel_rfl⟩

theorem wzc_t32767_15 : Region.free .any (regOf 6 Tryz.f5) (lst 48 32767) 15 = true ∧ (Region.ready .any (regOf 6 Tryz.f5) (lst 48 32767)).contains 15 = true ∧ (lst 48 32767).setIfInBounds 15 true = lst 48 65535 := ⟨by kernel_rfl, by kernel_rfl, by kernel_rfl⟩

theorem wzc_t65535_16 : Region.free .any (regOf 6 Tryz.f5) (lst 48 65535) 16 = true ∧ (Region.ready .any (regOf 6 Tryz.f5) (lst 48 65535)).contains 16 = true ∧ (lst 48 65535).setIfInBounds 16 true = lst 48 131071 := ⟨by kernel_rfl, by kernel_rfl, by kernel_rfl⟩

theorem wzc_t131071_17 : Region.free .any (regOf 6 Tryz.f5) (lst 48 131071) 17 = true ∧ (Region.ready .any (regOf 6 Tryz.f5) (lst 48 131071)).contains 17 = true ∧ (lst 48 131071).setIfInBounds 17 true = lst 48 262143 := ⟨by kernel_rfl, by kernel_rfl, by kernel_rfl⟩

theorem wzc_t262143_18 : Region.free .any (regOf 6 Tryz.f5) (lst 48 262143) 18 = true ∧ (Region.ready .any (regOf 6 Tryz.f5) (lst 48 262143)).contains 18 = true ∧ (lst 48 262143).setIfInBounds 18 true = lst 48 524287 := ⟨by kernel_rfl, by kernel_rfl, by kernel_rfl⟩

theorem wzc_t524287_19 : Region.free .any (regOf 6 Tryz.f5) (lst 48 524287) 19 = true ∧ (Region.ready .any (regOf 6 Tryz.f5) (lst 48 524287)).contains 19 = true ∧ (lst 48 524287).setIfInBounds 19 true = lst 48 1048575 := ⟨by kernel_rfl, by kernel_rfl, by kernel_rfl⟩

theorem wzc_t1048575_20 : Region.free .any (regOf 6 Tryz.f5) (lst 48 1048575) 20 = true ∧ (Region.ready .any (regOf 6 Tryz.f5) (lst 48 1048575)).contains 20 = true ∧ (lst 48 1048575).setIfInBounds 20 true = lst 48 2097151 := ⟨by kernel_rfl, by kernel_rfl, by kernel_rfl⟩

theorem wzc_t2097151_21 : Region.free .any (regOf 6 Tryz.f5) (lst 48 2097151) 21 = true ∧ (Region.ready .any (regOf 6 Tryz.f5) (lst 48 2097151)).contains 21 = true ∧ (lst 48 2097151).setIfInBounds 21 true = lst 48 4194303 := ⟨by kernel_rfl, by kernel_rfl, by kernel_rfl⟩

theorem wzc_t4194303_22 : Region.free .any (regOf 6 Tryz.f5) (lst 48 4194303) 22 = true ∧ (Region.ready .any (regOf 6 Tryz.f5) (lst 48 4194303)).contains 22 = true ∧ (lst 48 4194303).setIfInBounds 22 true = lst 48 8388607 := ⟨by kernel_rfl, by kernel_rfl, by kernel_rfl⟩

theorem wzc_t8388607_23 : Region.free .any (regOf 6 Tryz.f5) (lst 48 8388607) 23 = true ∧ (Region.ready .any (regOf 6 Tryz.f5) (lst 48 8388607)).contains 23 = true ∧ (lst 48 8388607).setIfInBounds 23 true = lst 48 16777215 := ⟨by kernel_rfl, by kernel_rfl, by kernel_rfl⟩

theorem wzc_t16777215_24 : Region.free .any (regOf 6 Tryz.f5) (lst 48 16777215) 24 = true ∧ (Region.ready .any (regOf 6 Tryz.f5) (lst 48 16777215)).contains 24 = true ∧ (lst 48 16777215).setIfInBounds 24 true = lst 48 33554431 := ⟨by kernel_rfl, by kernel_rfl, by kernel_rfl⟩

theorem wzc_t33554431_25 : Region.free .any (regOf 6 Tryz.f5) (lst 48 33554431) 25 = true ∧ (Region.ready .any (regOf 6 Tryz.f5) (lst 48 33554431)).contains 25 = true ∧ (lst 48 33554431).setIfInBounds 25 true = lst 48 67108863 := ⟨by kernel_rfl, by kernel_rfl, by kernel_rfl⟩

theorem wzc_t67108863_26 : Region.free .any (regOf 6 Tryz.f5) (lst 48 67108863) 26 = true ∧ (Region.ready .any (regOf 6 Tryz.f5) (lst 48 67108863)).contains 26 = true ∧ (lst 48 67108863).setIfInBounds 26 true = lst 48 134217727 := ⟨by kernel_rfl, by kernel_rfl, by kernel_rfl⟩

theorem wzc_t134217727_27 : Region.free .any (regOf 6 Tryz.f5) (lst 48 134217727) 27 = true ∧ (Region.ready .any (regOf 6 Tryz.f5) (lst 48 134217727)).contains 27 = true ∧ (lst 48 134217727).setIfInBounds 27 true = lst 48 268435455 := ⟨by kernel_rfl, by kernel_rfl, by kernel_rfl⟩

theorem wzc_r268435455 : Region.ready .any (regOf 6 Tryz.f5) (lst 48 268435455) = [28] ∧ (lst 48 268435455).setIfInBounds 28 true = lst 48 536870911 := ⟨by kernel_rfl, by kernel_rfl⟩

theorem wzc_t536870911_29 : Region.free .any (regOf 6 Tryz.f5) (lst 48 536870911) 29 = true ∧ (Region.ready .any (regOf 6 Tryz.f5) (lst 48 536870911)).contains 29 = true ∧ (lst 48 536870911).setIfInBounds 29 true = lst 48 1073741823 := ⟨by kernel_rfl, by kernel_rfl, by kernel_rfl⟩

theorem wzc_t1073741823_30 : Region.free .any (regOf 6 Tryz.f5) (lst 48 1073741823) 30 = true ∧ (Region.ready .any (regOf 6 Tryz.f5) (lst 48 1073741823)).contains 30 = true ∧ (lst 48 1073741823).setIfInBounds 30 true = lst 48 2147483647 := ⟨by kernel_rfl, by kernel_rfl, by kernel_rfl⟩

theorem wzc_t2147483647_31 : Region.free .any (regOf 6 Tryz.f5) (lst 48 2147483647) 31 = true ∧ (Region.ready .any (regOf 6 Tryz.f5) (lst 48 2147483647)).contains 31 = true ∧ (lst 48 2147483647).setIfInBounds 31 true = lst 48 4294967295 := ⟨by kernel_rfl, by kernel_rfl, by kernel_rfl⟩

theorem wzc_t4294967295_32 : Region.free .any (regOf 6 Tryz.f5) (lst 48 4294967295) 32 = true ∧ (Region.ready .any (regOf 6 Tryz.f5) (lst 48 4294967295)).contains 32 = true ∧ (lst 48 4294967295).setIfInBounds 32 true = lst 48 8589934591 := ⟨by kernel_rfl, by kernel_rfl, by kernel_rfl⟩

theorem wzc_t8589934591_33 : Region.free .any (regOf 6 Tryz.f5) (lst 48 8589934591) 33 = true ∧ (Region.ready .any (regOf 6 Tryz.f5) (lst 48 8589934591)).contains 33 = true ∧ (lst 48 8589934591).setIfInBounds 33 true = lst 48 17179869183 := ⟨by kernel_rfl, by kernel_rfl, by kernel_rfl⟩

theorem wzc_t17179869183_34 : Region.free .any (regOf 6 Tryz.f5) (lst 48 17179869183) 34 = true ∧ (Region.ready .any (regOf 6 Tryz.f5) (lst 48 17179869183)).contains 34 = true ∧ (lst 48 17179869183).setIfInBounds 34 true = lst 48 34359738367 := ⟨by kernel_rfl, by kernel_rfl, by kernel_rfl⟩

theorem wzc_t34359738367_35 : Region.free .any (regOf 6 Tryz.f5) (lst 48 34359738367) 35 = true ∧ (Region.ready .any (regOf 6 Tryz.f5) (lst 48 34359738367)).contains 35 = true ∧ (lst 48 34359738367).setIfInBounds 35 true = lst 48 68719476735 := ⟨by kernel_rfl, by kernel_rfl, by kernel_rfl⟩

theorem wzc_r68719476735 : Region.ready .any (regOf 6 Tryz.f5) (lst 48 68719476735) = [36] ∧ (lst 48 68719476735).setIfInBounds 36 true = lst 48 137438953471 := ⟨by kernel_rfl, by kernel_rfl⟩

theorem wzc_t137438953471_37 : Region.free .any (regOf 6 Tryz.f5) (lst 48 137438953471) 37 = true ∧ (Region.ready .any (regOf 6 Tryz.f5) (lst 48 137438953471)).contains 37 = true ∧ (lst 48 137438953471).setIfInBounds 37 true = lst 48 274877906943 := ⟨by kernel_rfl, by kernel_rfl, by kernel_rfl⟩

theorem wzc_t274877906943_38 : Region.free .any (regOf 6 Tryz.f5) (lst 48 274877906943) 38 = true ∧ (Region.ready .any (regOf 6 Tryz.f5) (lst 48 274877906943)).contains 38 = true ∧ (lst 48 274877906943).setIfInBounds 38 true = lst 48 549755813887 := ⟨by kernel_rfl, by kernel_rfl, by kernel_rfl⟩

theorem wzc_t549755813887_39 : Region.free .any (regOf 6 Tryz.f5) (lst 48 549755813887) 39 = true ∧ (Region.ready .any (regOf 6 Tryz.f5) (lst 48 549755813887)).contains 39 = true ∧ (lst 48 549755813887).setIfInBounds 39 true = lst 48 1099511627775 := ⟨by kernel_rfl, by kernel_rfl, by kernel_rfl⟩

theorem wzc_t1099511627775_40 : Region.free .any (regOf 6 Tryz.f5) (lst 48 1099511627775) 40 = true ∧ (Region.ready .any (regOf 6 Tryz.f5) (lst 48 1099511627775)).contains 40 = true ∧ (lst 48 1099511627775).setIfInBounds 40 true = lst 48 2199023255551 := ⟨by kernel_rfl, by kernel_rfl, by kernel_rfl⟩

theorem wzc_t2199023255551_41 : Region.free .any (regOf 6 Tryz.f5) (lst 48 2199023255551) 41 = true ∧ (Region.ready .any (regOf 6 Tryz.f5) (lst 48 2199023255551)).contains 41 = true ∧ (lst 48 2199023255551).setIfInBounds 41 true = lst 48 4398046511103 := ⟨by kernel_rfl, by kernel_rfl, by kernel_rfl⟩

theorem wzc_t4398046511103_42 : Region.free .any (regOf 6 Tryz.f5) (lst 48 4398046511103) 42 = true ∧ (Region.ready .any (regOf 6 Tryz.f5) (lst 48 4398046511103)).contains 42 = true ∧ (lst 48 4398046511103).setIfInBounds 42 true = lst 48 8796093022207 := ⟨by kernel_rfl, by kernel_rfl, by kernel_rfl⟩

theorem wzc_t8796093022207_43 : Region.free .any (regOf 6 Tryz.f5) (lst 48 8796093022207) 43 = true ∧ (Region.ready .any (regOf 6 Tryz.f5) (lst 48 8796093022207)).contains 43 = true ∧ (lst 48 8796093022207).setIfInBounds 43 true = lst 48 17592186044415 := ⟨by kernel_rfl, by kernel_rfl, by kernel_rfl⟩

theorem wzc_r17592186044415 : Region.ready .any (regOf 6 Tryz.f5) (lst 48 17592186044415) = [44] ∧ (lst 48 17592186044415).setIfInBounds 44 true = lst 48 35184372088831 := ⟨by kernel_rfl, by kernel_rfl⟩

theorem wzc_t35184372088831_45 : Region.free .any (regOf 6 Tryz.f5) (lst 48 35184372088831) 45 = true ∧ (Region.ready .any (regOf 6 Tryz.f5) (lst 48 35184372088831)).contains 45 = true ∧ (lst 48 35184372088831).setIfInBounds 45 true = lst 48 70368744177663 := ⟨by kernel_rfl, by kernel_rfl, by kernel_rfl⟩

theorem wzc_t70368744177663_46 : Region.free .any (regOf 6 Tryz.f5) (lst 48 70368744177663) 46 = true ∧ (Region.ready .any (regOf 6 Tryz.f5) (lst 48 70368744177663)).contains 46 = true ∧ (lst 48 70368744177663).setIfInBounds 46 true = lst 48 140737488355327 := ⟨by kernel_rfl, by kernel_rfl, by kernel_rfl⟩

theorem wzc_t140737488355327_47 : Region.free .any (regOf 6 Tryz.f5) (lst 48 140737488355327) 47 = true ∧ (Region.ready .any (regOf 6 Tryz.f5) (lst 48 140737488355327)).contains 47 = true ∧ (lst 48 140737488355327).setIfInBounds 47 true = lst 48 281474976710655 := ⟨by kernel_rfl, by kernel_rfl, by kernel_rfl⟩

theorem wzc_end : Region.ready .any (regOf 6 Tryz.f5) (lst 48 281474976710655) = [] := by kernel_rfl

end Go.Proofs.YthmecljkackmbaaGreat

/- StoreNil: a store that is not there, or that nobody made, refuses every call. -/
namespace Go.Proofs.YthmecljkackmbaaGreat
open Go.RowKit
set_option linter.unusedVariables false

set_option maxRecDepth 20000 in
set_option maxHeartbeats 8000000 in
theorem storeNil_walk (ce cn : Int) (v : Value) (l : List Bm.Ov) (n : Int) (w : World) (hce : In64 ce) (hcn : In64 cn) (h : IsO w v l) (hf : FitO l) (hl : l.length * 40 ≤ 140737488351232) (hn : (Lit.int .i64 n).wf = true) :
    Calls Tryz.prog 5 #[cmv ce cn v, .int .i64 n] w fun e w' => e = .returned (.bool true) ∧ Below w.heap.size w w' := by
  obtain ⟨ao, cap, hv, _, _⟩ := h.shape
  obtain ⟨w1, hw1, sz1, bel1, hB1⟩ := blk_step w #[.int .i64 ce, .int .i64 cn, v] 55
  obtain ⟨w2, hw2, sz2, bel2, hB2⟩ := blk_step w1 #[.pointer none, .slice none 0 0, .pointer none] 66
  obtain ⟨w3, hw3, sz3, bel3, hB3⟩ := blk_step w2 #[.pointer none, .pointer (some ⟨w1.heap.size, 0, none⟩)] 23
  have b13 : Below w1.heap.size w1 w3 := bel2.trans (bel3.mono bel2.size)
  have KP : Hid (∀ W, Below w3.heap.size w3 W → (W.cell? ⟨w.heap.size, 0, none⟩ = some (.int .i64 ce) ∧ W.cell? ⟨w.heap.size, 1, none⟩ = some (.int .i64 cn) ∧ W.cell? ⟨w.heap.size, 2, none⟩ = some v) ∧ (W.cell? ⟨w2.heap.size, 0, none⟩ = some (.pointer none) ∧ W.cell? ⟨w2.heap.size, 1, none⟩ = some (.pointer (some ⟨w1.heap.size, 0, none⟩))) ∧ NoS W (.pointer none) ∧ NoS W (.pointer (some ⟨w1.heap.size, 0, none⟩)) ∧ Below w.heap.size w W) := hide fun W hb => by
    have k1 := (hb.block w.heap.size (by omega)).trans ((b13.block w.heap.size (by omega)).trans hB1)
    have k2 := (hb.block w1.heap.size (by omega)).trans ((bel3.block w1.heap.size (by omega)).trans hB2)
    have k3 := (hb.block w2.heap.size (by omega)).trans hB3
    exact ⟨⟨blk_cell k1 0 rfl, blk_cell k1 1 rfl, blk_cell k1 2 rfl⟩, ⟨blk_cell k3 0 rfl, blk_cell k3 1 rfl⟩, .inl rfl, .inr ⟨_, rfl, k2⟩, bel1.trans ((b13.trans (hb.mono b13.size)).mono bel1.size)⟩
  have CELL : Hid (∀ k : Nat, k < 2 → ∃ a, (∀ W, Below w3.heap.size w3 W → W.cell? ⟨w2.heap.size, k, none⟩ = some (.pointer a) ∧ NoS W (.pointer a))) := hide fun k hk => by
    rcases (show k = 0 ∨ k = 1 by omega) with rfl | rfl
    · exact ⟨none, fun W hb => ⟨(KP.out W hb).2.1.1, (KP.out W hb).2.2.1⟩⟩
    · exact ⟨_, fun W hb => ⟨(KP.out W hb).2.1.2, (KP.out W hb).2.2.2.1⟩⟩
  have ND : Hid (∀ W, ∃ V, W.alloc (.cells #[.pointer none, .bool false, .slice none 0 0] 71) = V ∧ Below W.heap.size W V ∧ NoR V (.pointer (some ⟨W.heap.size, 0, none⟩))) := hide fun W => by
    obtain ⟨V, hV, _, bV, hB⟩ := blk_step W #[.pointer none, .bool false, .slice none 0 0] 71
    exact ⟨V, hV, bV, .inr ⟨_, rfl, hB⟩⟩
  unfold cmv
  rw [hv] at hw1 KP ⊢
  have SZ := hide (show w1.heap.size = w.heap.size + 1 ∧ w2.heap.size = w1.heap.size + 1 ∧ w3.heap.size = w2.heap.size + 1 from ⟨sz1, sz2, sz3⟩)
  clear h hf hl hce hcn hn hB1 hB2 hB3 bel1 bel2 bel3 b13 hv sz1 sz2 sz3
  go_enter Tryz.func5, Tryz.ntmps5
  go_wp2
  go_loopw [6] (fun iv wr => ∃ k : Nat, k ≤ 2 ∧ iv = .int .i64 k ∧ Hid (Below w3.heap.size w3 wr)) (fun iv _ => 2 - (intOf iv).toNat)
  case atStart => exact ⟨0, by omega, rfl, hide (Below.refl _ _)⟩
  case round =>
    obtain ⟨k, hk, rfl, BR⟩ := hrel
    by_cases hlt : k < 2
    · obtain ⟨a, ha⟩ := CELL.out k hlt
      obtain ⟨cc, na⟩ := ha wr BR.out
      have hlt' : (k : Int) < 2 := by omega
      have hk0 : (0 : Int) ≤ k := by omega
      have G1 := hide (sget_no wr (.pointer a) ⟨#[97]⟩ na)
      have HA := hide ha
      clear na ha
      go_wp2_with fail
      refine G1.out.mono ?_
      rintro E wa ⟨rfl, rfl⟩
      have SX : Hid (∀ W, Below w3.heap.size w3 W → (W.cell? ⟨w2.heap.size, k, none⟩ = some (.pointer a)) ∧ (W.cell? ⟨w.heap.size, 0, none⟩ = some (.int .i64 ce) ∧ W.cell? ⟨w.heap.size, 1, none⟩ = some (.int .i64 cn) ∧ W.cell? ⟨w.heap.size, 2, none⟩ = some (.slice ao l.length cap))) := hide fun W hb => ⟨(HA.out W hb).1, (KP.out W hb).1⟩
      have A1 : Hid (∀ W, Below w3.heap.size w3 W → Calls Tryz.prog 34 #[.pointer a, .agg #[.int .i64 ce, .int .i64 cn, .slice ao l.length cap]] W fun E w' => E = .returned (.int .i64 1) ∧ Below W.heap.size W w') := hide fun W hb => sapply_no W _ ce cn _ ⟨_, _, _, rfl⟩ (HA.out W hb).2
      have A2 : Hid (∀ W, Below w3.heap.size w3 W → Calls Tryz.prog 12 #[.pointer a, .int .i64 n] W fun E w' => E = .returned (.int .i64 1) ∧ W = w') := hide fun W hb => sflush_no W _ n (HA.out W hb).2
      have A3 : Hid (∀ W, Below w3.heap.size w3 W → Calls Tryz.prog 35 #[.pointer a] W fun E w' => E = .returned (.int .i64 0) ∧ W = w') := hide fun W hb => sEnd_no W _ (HA.out W hb).2
      have A4 : Hid (∀ W, Below w3.heap.size w3 W → Calls Tryz.prog 13 #[.pointer a] W fun E w' => E = .returned (.int .i64 0) ∧ W = w') := hide fun W hb => sRest_no W _ (HA.out W hb).2
      have A5 : Hid (∀ W, Below w3.heap.size w3 W → Calls Tryz.prog 31 #[.pointer a, .int .i64 2] W fun E w' => (∃ b c, E = .returned (.slice b 0 c)) ∧ Below W.heap.size W w') := hide fun W hb => sall_no W _ 2 (HA.out W hb).2
      clear G1 cc
      go_wp2_with fail
      obtain ⟨W0, hW0⟩ : ∃ x, wr.drew = x := ⟨_, rfl⟩
      have bel0 : Below w3.heap.size w3 W0 := by rw [← hW0]; exact BR.out.drew
      refine region_any (ops := (regOf 6 Tryz.f5)) (S := fun W => (W.cell? ⟨w2.heap.size, k, none⟩ = some (.pointer a)) ∧ (W.cell? ⟨w.heap.size, 0, none⟩ = some (.int .i64 ce) ∧ W.cell? ⟨w.heap.size, 1, none⟩ = some (.int .i64 cn) ∧ W.cell? ⟨w.heap.size, 2, none⟩ = some (.slice ao l.length cap))) (by kernel_rfl) wzc_size ?_
      rw [wzc_new, hW0]
      refine any_take (v := ?_) wzc_t0_0 (by kernel_rfl) (fun _ _ _ _ _ h => h) (SX.out _ bel0) rfl rfl (by rfl) ?_ ?_
      rotate_left 1
      · intro w hS
        (try dsimp only at hS)
        go_simp
        all_goals with_reducible rfl
      simp only [Act.put, List.setIfInBounds_toArray, List.set_cons_zero, List.set_cons_succ]
      refine any_take (v := ?_) wzc_t1_1 (by kernel_rfl) (fun _ _ _ _ _ h => h) (SX.out _ bel0) rfl rfl (by rfl) ?_ ?_
      rotate_left 1
      · intro w hS
        (try dsimp only at hS)
        go_simp
        all_goals with_reducible rfl
      simp only [Act.put, List.setIfInBounds_toArray, List.set_cons_zero, List.set_cons_succ]
      refine any_take (v := ?_) wzc_t3_2 (by kernel_rfl) (fun _ _ _ _ _ h => h) (SX.out _ bel0) rfl rfl (by rfl) ?_ ?_
      rotate_left 1
      · intro w hS
        (try dsimp only at hS)
        go_simp
        all_goals with_reducible rfl
      simp only [Act.put, List.setIfInBounds_toArray, List.set_cons_zero, List.set_cons_succ]
      refine any_take (v := ?_) wzc_t7_3 (by kernel_rfl) (fun _ _ _ _ _ h => h) (SX.out _ bel0) rfl rfl (by rfl) ?_ ?_
      rotate_left 1
      · intro w hS
        (try dsimp only at hS)
        go_simp
        all_goals with_reducible rfl
      simp only [Act.put, List.setIfInBounds_toArray, List.set_cons_zero, List.set_cons_succ]
      refine any_take (v := ?_) wzc_t15_4 (by kernel_rfl) (fun _ _ _ _ _ h => h) (SX.out _ bel0) rfl rfl (by rfl) ?_ ?_
      rotate_left 1
      · intro w hS
        (try dsimp only at hS)
        go_simp
        all_goals with_reducible rfl
      simp only [Act.put, List.setIfInBounds_toArray, List.set_cons_zero, List.set_cons_succ]
      refine any_one wzc_r31 ?_
      refine any_op rfl (by rfl) (fun K hK => ?_)
      go_simp
      refine (A1.out _ bel0).mono ?_
      rintro E W1 ⟨rfl, st1⟩
      have bel1 := bel0.trans (st1.mono bel0.size)
      go_wp2_with fail
      refine hK.out _ _ (SX.out _ bel1) ?_
      clear hK K
      try simp only [Act.put, List.setIfInBounds_toArray, List.set_cons_zero, List.set_cons_succ]
      refine any_take (v := ?_) wzc_t63_6 (by kernel_rfl) (fun _ _ _ _ _ h => h) (SX.out _ bel1) rfl rfl (by rfl) ?_ ?_
      rotate_left 1
      · intro w hS
        (try dsimp only at hS)
        go_simp
        all_goals with_reducible rfl
      simp only [Act.put, List.setIfInBounds_toArray, List.set_cons_zero, List.set_cons_succ]
      refine any_take (v := ?_) wzc_t127_7 (by kernel_rfl) (fun _ _ _ _ _ h => h) (SX.out _ bel1) rfl rfl (by rfl) ?_ ?_
      rotate_left 1
      · intro w hS
        (try dsimp only at hS)
        go_simp
        all_goals with_reducible rfl
      simp only [Act.put, List.setIfInBounds_toArray, List.set_cons_zero, List.set_cons_succ]
      refine any_take (v := ?_) wzc_t255_8 (by kernel_rfl) (fun _ _ _ _ _ h => h) (SX.out _ bel1) rfl rfl (by rfl) ?_ ?_
      rotate_left 1
      · intro w hS
        (try dsimp only at hS)
        go_simp
        all_goals with_reducible rfl
      simp only [Act.put, List.setIfInBounds_toArray, List.set_cons_zero, List.set_cons_succ]
      refine any_take (v := ?_) wzc_t511_9 (by kernel_rfl) (fun _ _ _ _ _ h => h) (SX.out _ bel1) rfl rfl (by rfl) ?_ ?_
      rotate_left 1
      · intro w hS
        (try dsimp only at hS)
        go_simp
        all_goals with_reducible rfl
      simp only [Act.put, List.setIfInBounds_toArray, List.set_cons_zero, List.set_cons_succ]
      refine any_take (v := ?_) wzc_t1023_10 (by kernel_rfl) (fun _ _ _ _ _ h => h) (SX.out _ bel1) rfl rfl (by rfl) ?_ ?_
      rotate_left 1
      · intro w hS
        (try dsimp only at hS)
        go_simp
        all_goals with_reducible rfl
      simp only [Act.put, List.setIfInBounds_toArray, List.set_cons_zero, List.set_cons_succ]
      refine any_take (v := ?_) wzc_t2047_11 (by kernel_rfl) (fun _ _ _ _ _ h => h) (SX.out _ bel1) rfl rfl (by rfl) ?_ ?_
      rotate_left 1
      · intro w hS
        (try dsimp only at hS)
        go_simp
        all_goals with_reducible rfl
      simp only [Act.put, List.setIfInBounds_toArray, List.set_cons_zero, List.set_cons_succ]
      refine any_take (v := ?_) wzc_t4095_12 (by kernel_rfl) (fun _ _ _ _ _ h => h) (SX.out _ bel1) rfl rfl (by rfl) ?_ ?_
      rotate_left 1
      · intro w hS
        (try dsimp only at hS)
        go_simp
        all_goals with_reducible rfl
      simp only [Act.put, List.setIfInBounds_toArray, List.set_cons_zero, List.set_cons_succ]
      refine any_one wzc_r8191 ?_
      refine any_op rfl (by rfl) (fun K hK => ?_)
      go_simp
      refine (A2.out _ bel1).mono ?_
      rintro E W2 ⟨rfl, rfl⟩
      go_wp2_with fail
      refine hK.out _ _ (SX.out _ bel1) ?_
      clear hK K
      try simp only [Act.put, List.setIfInBounds_toArray, List.set_cons_zero, List.set_cons_succ]
      refine any_take (v := ?_) wzc_t16383_14 (by kernel_rfl) (fun _ _ _ _ _ h => h) (SX.out _ bel1) rfl rfl (by rfl) ?_ ?_
      rotate_left 1
      · intro w hS
        (try dsimp only at hS)
        go_simp
        all_goals with_reducible rfl
      simp only [Act.put, List.setIfInBounds_toArray, List.set_cons_zero, List.set_cons_succ]
      refine any_take (v := ?_) wzc_t32767_15 (by kernel_rfl) (fun _ _ _ _ _ h => h) (SX.out _ bel1) rfl rfl (by rfl) ?_ ?_
      rotate_left 1
      · intro w hS
        (try dsimp only at hS)
        go_simp
        all_goals with_reducible rfl
      simp only [Act.put, List.setIfInBounds_toArray, List.set_cons_zero, List.set_cons_succ]
      refine any_take (v := ?_) wzc_t65535_16 (by kernel_rfl) (fun _ _ _ _ _ h => h) (SX.out _ bel1) rfl rfl (by rfl) ?_ ?_
      rotate_left 1
      · intro w hS
        (try dsimp only at hS)
        go_simp
        all_goals with_reducible rfl
      simp only [Act.put, List.setIfInBounds_toArray, List.set_cons_zero, List.set_cons_succ]
      refine any_take (v := ?_) wzc_t131071_17 (by kernel_rfl) (fun _ _ _ _ _ h => h) (SX.out _ bel1) rfl rfl (by rfl) ?_ ?_
      rotate_left 1
      · intro w hS
        (try dsimp only at hS)
        go_simp
        all_goals with_reducible rfl
      simp only [Act.put, List.setIfInBounds_toArray, List.set_cons_zero, List.set_cons_succ]
      refine any_take (v := ?_) wzc_t262143_18 (by kernel_rfl) (fun _ _ _ _ _ h => h) (SX.out _ bel1) rfl rfl (by rfl) ?_ ?_
      rotate_left 1
      · intro w hS
        (try dsimp only at hS)
        go_simp
        all_goals with_reducible rfl
      simp only [Act.put, List.setIfInBounds_toArray, List.set_cons_zero, List.set_cons_succ]
      refine any_take (v := ?_) wzc_t524287_19 (by kernel_rfl) (fun _ _ _ _ _ h => h) (SX.out _ bel1) rfl rfl (by rfl) ?_ ?_
      rotate_left 1
      · intro w hS
        (try dsimp only at hS)
        go_simp
        all_goals with_reducible rfl
      simp only [Act.put, List.setIfInBounds_toArray, List.set_cons_zero, List.set_cons_succ]
      refine any_take (v := ?_) wzc_t1048575_20 (by kernel_rfl) (fun _ _ _ _ _ h => h) (SX.out _ bel1) rfl rfl (by rfl) ?_ ?_
      rotate_left 1
      · intro w hS
        (try dsimp only at hS)
        go_simp
        all_goals with_reducible rfl
      simp only [Act.put, List.setIfInBounds_toArray, List.set_cons_zero, List.set_cons_succ]
      refine any_take (v := ?_) wzc_t2097151_21 (by kernel_rfl) (fun _ _ _ _ _ h => h) (SX.out _ bel1) rfl rfl (by rfl) ?_ ?_
      rotate_left 1
      · intro w hS
        (try dsimp only at hS)
        go_simp
        all_goals with_reducible rfl
      simp only [Act.put, List.setIfInBounds_toArray, List.set_cons_zero, List.set_cons_succ]
      refine any_take (v := ?_) wzc_t4194303_22 (by kernel_rfl) (fun _ _ _ _ _ h => h) (SX.out _ bel1) rfl rfl (by rfl) ?_ ?_
      rotate_left 1
      · intro w hS
        (try dsimp only at hS)
        go_simp
        all_goals with_reducible rfl
      simp only [Act.put, List.setIfInBounds_toArray, List.set_cons_zero, List.set_cons_succ]
      refine any_take (v := ?_) wzc_t8388607_23 (by kernel_rfl) (fun _ _ _ _ _ h => h) (SX.out _ bel1) rfl rfl (by rfl) ?_ ?_
      rotate_left 1
      · intro w hS
        (try dsimp only at hS)
        go_simp
        all_goals with_reducible rfl
      simp only [Act.put, List.setIfInBounds_toArray, List.set_cons_zero, List.set_cons_succ]
      refine any_take (v := ?_) wzc_t16777215_24 (by kernel_rfl) (fun _ _ _ _ _ h => h) (SX.out _ bel1) rfl rfl (by rfl) ?_ ?_
      rotate_left 1
      · intro w hS
        (try dsimp only at hS)
        go_simp
        all_goals with_reducible rfl
      simp only [Act.put, List.setIfInBounds_toArray, List.set_cons_zero, List.set_cons_succ]
      refine any_take (v := ?_) wzc_t33554431_25 (by kernel_rfl) (fun _ _ _ _ _ h => h) (SX.out _ bel1) rfl rfl (by rfl) ?_ ?_
      rotate_left 1
      · intro w hS
        (try dsimp only at hS)
        go_simp
        all_goals with_reducible rfl
      simp only [Act.put, List.setIfInBounds_toArray, List.set_cons_zero, List.set_cons_succ]
      refine any_take (v := ?_) wzc_t67108863_26 (by kernel_rfl) (fun _ _ _ _ _ h => h) (SX.out _ bel1) rfl rfl (by rfl) ?_ ?_
      rotate_left 1
      · intro w hS
        (try dsimp only at hS)
        go_simp
        all_goals with_reducible rfl
      simp only [Act.put, List.setIfInBounds_toArray, List.set_cons_zero, List.set_cons_succ]
      refine any_take (v := ?_) wzc_t134217727_27 (by kernel_rfl) (fun _ _ _ _ _ h => h) (SX.out _ bel1) rfl rfl (by rfl) ?_ ?_
      rotate_left 1
      · intro w hS
        (try dsimp only at hS)
        go_simp
        all_goals with_reducible rfl
      simp only [Act.put, List.setIfInBounds_toArray, List.set_cons_zero, List.set_cons_succ]
      refine any_one wzc_r268435455 ?_
      refine any_op rfl (by rfl) (fun K hK => ?_)
      go_simp
      refine (A3.out _ bel1).mono ?_
      rintro E W3 ⟨rfl, rfl⟩
      go_wp2_with fail
      refine hK.out _ _ (SX.out _ bel1) ?_
      clear hK K
      try simp only [Act.put, List.setIfInBounds_toArray, List.set_cons_zero, List.set_cons_succ]
      refine any_take (v := ?_) wzc_t536870911_29 (by kernel_rfl) (fun _ _ _ _ _ h => h) (SX.out _ bel1) rfl rfl (by rfl) ?_ ?_
      rotate_left 1
      · intro w hS
        (try dsimp only at hS)
        go_simp
        all_goals with_reducible rfl
      simp only [Act.put, List.setIfInBounds_toArray, List.set_cons_zero, List.set_cons_succ]
      refine any_take (v := ?_) wzc_t1073741823_30 (by kernel_rfl) (fun _ _ _ _ _ h => h) (SX.out _ bel1) rfl rfl (by rfl) ?_ ?_
      rotate_left 1
      · intro w hS
        (try dsimp only at hS)
        go_simp
        all_goals with_reducible rfl
      simp only [Act.put, List.setIfInBounds_toArray, List.set_cons_zero, List.set_cons_succ]
      refine any_take (v := ?_) wzc_t2147483647_31 (by kernel_rfl) (fun _ _ _ _ _ h => h) (SX.out _ bel1) rfl rfl (by rfl) ?_ ?_
      rotate_left 1
      · intro w hS
        (try dsimp only at hS)
        go_simp
        all_goals with_reducible rfl
      simp only [Act.put, List.setIfInBounds_toArray, List.set_cons_zero, List.set_cons_succ]
      refine any_take (v := ?_) wzc_t4294967295_32 (by kernel_rfl) (fun _ _ _ _ _ h => h) (SX.out _ bel1) rfl rfl (by rfl) ?_ ?_
      rotate_left 1
      · intro w hS
        (try dsimp only at hS)
        go_simp
        all_goals with_reducible rfl
      simp only [Act.put, List.setIfInBounds_toArray, List.set_cons_zero, List.set_cons_succ]
      refine any_take (v := ?_) wzc_t8589934591_33 (by kernel_rfl) (fun _ _ _ _ _ h => h) (SX.out _ bel1) rfl rfl (by rfl) ?_ ?_
      rotate_left 1
      · intro w hS
        (try dsimp only at hS)
        go_simp
        all_goals with_reducible rfl
      simp only [Act.put, List.setIfInBounds_toArray, List.set_cons_zero, List.set_cons_succ]
      refine any_take (v := ?_) wzc_t17179869183_34 (by kernel_rfl) (fun _ _ _ _ _ h => h) (SX.out _ bel1) rfl rfl (by rfl) ?_ ?_
      rotate_left 1
      · intro w hS
        (try dsimp only at hS)
        go_simp
        all_goals with_reducible rfl
      simp only [Act.put, List.setIfInBounds_toArray, List.set_cons_zero, List.set_cons_succ]
      refine any_take (v := ?_) wzc_t34359738367_35 (by kernel_rfl) (fun _ _ _ _ _ h => h) (SX.out _ bel1) rfl rfl (by rfl) ?_ ?_
      rotate_left 1
      · intro w hS
        (try dsimp only at hS)
        go_simp
        all_goals with_reducible rfl
      simp only [Act.put, List.setIfInBounds_toArray, List.set_cons_zero, List.set_cons_succ]
      refine any_one wzc_r68719476735 ?_
      refine any_op rfl (by rfl) (fun K hK => ?_)
      go_simp
      refine (A4.out _ bel1).mono ?_
      rintro E W4 ⟨rfl, rfl⟩
      go_wp2_with fail
      refine hK.out _ _ (SX.out _ bel1) ?_
      clear hK K
      try simp only [Act.put, List.setIfInBounds_toArray, List.set_cons_zero, List.set_cons_succ]
      refine any_take (v := ?_) wzc_t137438953471_37 (by kernel_rfl) (fun _ _ _ _ _ h => h) (SX.out _ bel1) rfl rfl (by rfl) ?_ ?_
      rotate_left 1
      · intro w hS
        (try dsimp only at hS)
        go_simp
        all_goals with_reducible rfl
      simp only [Act.put, List.setIfInBounds_toArray, List.set_cons_zero, List.set_cons_succ]
      refine any_take (v := ?_) wzc_t274877906943_38 (by kernel_rfl) (fun _ _ _ _ _ h => h) (SX.out _ bel1) rfl rfl (by rfl) ?_ ?_
      rotate_left 1
      · intro w hS
        (try dsimp only at hS)
        go_simp
        all_goals with_reducible rfl
      simp only [Act.put, List.setIfInBounds_toArray, List.set_cons_zero, List.set_cons_succ]
      refine any_take (v := ?_) wzc_t549755813887_39 (by kernel_rfl) (fun _ _ _ _ _ h => h) (SX.out _ bel1) rfl rfl (by rfl) ?_ ?_
      rotate_left 1
      · intro w hS
        (try dsimp only at hS)
        go_simp
        all_goals with_reducible rfl
      simp only [Act.put, List.setIfInBounds_toArray, List.set_cons_zero, List.set_cons_succ]
      refine any_take (v := ?_) wzc_t1099511627775_40 (by kernel_rfl) (fun _ _ _ _ _ h => h) (SX.out _ bel1) rfl rfl (by rfl) ?_ ?_
      rotate_left 1
      · intro w hS
        (try dsimp only at hS)
        go_simp
        all_goals with_reducible rfl
      simp only [Act.put, List.setIfInBounds_toArray, List.set_cons_zero, List.set_cons_succ]
      refine any_take (v := ?_) wzc_t2199023255551_41 (by kernel_rfl) (fun _ _ _ _ _ h => h) (SX.out _ bel1) rfl rfl (by rfl) ?_ ?_
      rotate_left 1
      · intro w hS
        (try dsimp only at hS)
        go_simp
        all_goals with_reducible rfl
      simp only [Act.put, List.setIfInBounds_toArray, List.set_cons_zero, List.set_cons_succ]
      refine any_take (v := ?_) wzc_t4398046511103_42 (by kernel_rfl) (fun _ _ _ _ _ h => h) (SX.out _ bel1) rfl rfl (by rfl) ?_ ?_
      rotate_left 1
      · intro w hS
        (try dsimp only at hS)
        go_simp
        all_goals with_reducible rfl
      simp only [Act.put, List.setIfInBounds_toArray, List.set_cons_zero, List.set_cons_succ]
      refine any_take (v := ?_) wzc_t8796093022207_43 (by kernel_rfl) (fun _ _ _ _ _ h => h) (SX.out _ bel1) rfl rfl (by rfl) ?_ ?_
      rotate_left 1
      · intro w hS
        (try dsimp only at hS)
        go_simp
        all_goals with_reducible rfl
      simp only [Act.put, List.setIfInBounds_toArray, List.set_cons_zero, List.set_cons_succ]
      refine any_one wzc_r17592186044415 ?_
      refine any_op rfl (by rfl) (fun K hK => ?_)
      go_simp
      refine (A5.out _ bel1).mono ?_
      rintro E W5 ⟨⟨xb, xc, rfl⟩, st5⟩
      have bel5 := bel1.trans (st5.mono bel1.size)
      go_wp2_with fail
      refine hK.out _ _ (SX.out _ bel5) ?_
      clear hK K
      try simp only [Act.put, List.setIfInBounds_toArray, List.set_cons_zero, List.set_cons_succ]
      refine any_take (v := ?_) wzc_t35184372088831_45 (by kernel_rfl) (fun _ _ _ _ _ h => h) (SX.out _ bel5) rfl rfl (by rfl) ?_ ?_
      rotate_left 1
      · intro w hS
        (try dsimp only at hS)
        go_simp
        all_goals with_reducible rfl
      simp only [Act.put, List.setIfInBounds_toArray, List.set_cons_zero, List.set_cons_succ]
      refine any_take (v := ?_) wzc_t70368744177663_46 (by kernel_rfl) (fun _ _ _ _ _ h => h) (SX.out _ bel5) rfl rfl (by rfl) ?_ ?_
      rotate_left 1
      · intro w hS
        (try dsimp only at hS)
        go_simp
        all_goals with_reducible rfl
      simp only [Act.put, List.setIfInBounds_toArray, List.set_cons_zero, List.set_cons_succ]
      refine any_take (v := ?_) wzc_t140737488355327_47 (by kernel_rfl) (fun _ _ _ _ _ h => h) (SX.out _ bel5) rfl rfl (by rfl) ?_ ?_
      rotate_left 1
      · intro w hS
        (try dsimp only at hS)
        go_simp
        all_goals with_reducible rfl
      simp only [Act.put, List.setIfInBounds_toArray, List.set_cons_zero, List.set_cons_succ]
      refine any_done wzc_end ?_
      have BE := hide bel5
      clear A1 A2 A3 A4 A5 SX
      go_wp2
      go_roundw
      case rel => exact ⟨k + 1, by omega, by go_num, BE⟩
      case measure => simp [intOf]; omega
    · obtain rfl : k = 2 := by omega
      obtain ⟨V, hV, bV, nd⟩ := ND.out wr
      have NV := hide nd
      have BV := hide ((KP.out wr BR.out).2.2.2.2.trans (bV.mono (KP.out wr BR.out).2.2.2.2.size))
      have HO := hide (sopen_no V _ (.slice none 0 0) ⟨_, _, _, rfl⟩ NV.out)
      clear bV nd
      go_wp2_with fail
      refine HO.out.mono ?_
      rintro E w' ⟨rfl, b4⟩
      have B4 := hide (BV.out.trans (b4.mono BV.out.size))
      clear b4 HO
      go_wp2_with fail
      refine (slives_any w').mono ?_
      rintro E w5 ⟨rfl, b5⟩
      have B5 := hide (B4.out.trans (b5.mono B4.out.size))
      clear b5
      go_wp2
      go_ret
      exact ⟨rfl, B5.out⟩

end Go.Proofs.YthmecljkackmbaaGreat

/- Proved: StoreNil -/
namespace Go.Proofs.YthmecljkackmbaaGreat
open Go.ChangeShapes Go.WideShapes Go.ChangeAt Go.RowKit
open Go.ChangeMaps (open_string shut_string)
set_option linter.unusedVariables false

namespace storeNilFrame
theorem own : ownKnob Tryz.prog.godebug = none := by kernel_rfl
theorem laidOut : laidOutB Tryz.prog = true := by kernel_rfl
theorem cells55 : Tryz.prog.cellsOf 55 = 3 := by kernel_rfl
theorem bytes55 : Tryz.prog.bytesOf 55 = 40 := by kernel_rfl
theorem cells81 : Tryz.prog.cellsOf 81 = 3 := by kernel_rfl
theorem bytes81 : Tryz.prog.bytesOf 81 = 40 := by kernel_rfl

set_option maxRecDepth 100000 in
theorem lifted (os : Os) (started : os.Started) (H : Type) (enc : TypeId × Value → H) :
    ReturnsInHanded {} Tryz.checked os 5 .any (Rows.storeNilSpec.pre6 enc Tryz.prog Tryz.f5 Rows.storeNilRow.domain false) (Rows.storeNilSpec.post enc Tryz.prog Tryz.f5 false true false false) := by
  refine returnsInHanded_of_change_sized (C := Tryz.checked) own started (by kernel_rfl) Tryz.func5
    (ChangeSpec.witness6 (enc := enc) (C := Tryz.checked) false ⟨#[], #[.agg #[.int .i64 0, .int .i64 0, .slice none 0 0], .int .i64 0], []⟩ 8 (by kernel_rfl) (by kernel_rfl) (by kernel_rfl) (by kernel_rfl)) ?_
  intro W base args ds gs before hval0 hW hcnd hsz0 _
  have hsz : (DataW.weightsEach Tryz.prog (Tryz.f5.params.toList ++ Rows.storeNilSpec.plain.varTypes Tryz.prog) (ds ++ gs)).all (· ≤ reachBytes) = true := hsz0
  clear hsz0
  have hval : ∀ (j : Nat) t v, Tryz.f5.params[j]? = some t → args[j]? = some v → Value.okWide Tryz.prog W .any base t v := hval0
  have hW' := hW
  obtain ⟨p, q, hA0, hV, rfl, hfz, hnd⟩ := hW
  have hA : DataW.TrodAll enc Tryz.prog W 0 (fun _ => true) true Tryz.f5.params.toList args.toList ds p := hA0
  rw [Tryz.params5] at hA hval hsz
  obtain ⟨v0, vs0, d0, ds0, p0, q0, hargs, rfl, rfl, h0, r0⟩ := trodAll_cons hA
  obtain ⟨v1, vs1, d1, ds1, p1, q1, rfl, rfl, rfl, h1, r1⟩ := trodAll_cons r0
  obtain ⟨rfl, rfl, rfl⟩ := trodAll_nil r1
  obtain rfl : args = #[v0, v1] := by cases args; simp_all
  obtain ⟨rfl, rfl⟩ := trodVars_none hV
  have k0 := h0
  have lt0 : ∀ x ∈ p0, x.block < W.heap.size := by obtain ⟨m, hm⟩ := k0; exact DataW.trod_lt m _ _ _ hm
  obtain ⟨c00, c01, c02, y00, y01, y02, m0, rfl, hd0, _, hy00, hy01, hy02⟩ := Joins.open_agg3 Tryz.underlying55 (by kernel_rfl) cells55 (hval 0 55 v0 rfl rfl) h0
  obtain ⟨a00, e00, _, w00⟩ := DataW.trod_int Tryz.underlying3 hy00
  obtain ⟨a01, e01, _, w01⟩ := DataW.trod_int Tryz.underlying3 hy01
  obtain ⟨z0, w0, hq0⟩ := open_ops Tryz.underlying53 Tryz.underlying81 (by kernel_rfl) cells81 Tryz.underlying4 Tryz.underlying9 Tryz.underlying9 hy02
  simp only [List.cons.injEq, and_true] at e00 e01
  subst e00 e01
  obtain ⟨g0, b0⟩ : FitO z0 ∧ z0.length * 40 ≤ 140737488351232 := by
    rw [hd0] at hsz
    exact sized_com hsz (j := 0) (t := 55) (e := 81) rfl rfl Tryz.underlying55 hq0 Tryz.underlying53 Tryz.underlying81 bytes81
  obtain ⟨a1, rfl, rfl, rfl, w1⟩ := open_int Tryz.underlying3 (hval 1 3 v1 rfl rfl) h1
  clear hA0 hval0
  refine (storeNil_walk a00 a01 _ z0 a1 W (in64 w00) (in64 w01) w0 g0 b0 w1).mono fun e W' ⟨he, bel⟩ => ?_
  subst he
  exact ⟨_, rfl, _, _, _, [], _, [], hW', trodAll_mk1 (shut_bool Tryz.underlying4 _), (trodAll_cons_mk (Below.trod laidOut (by kernel_rfl) (of_decide_eq_true (by kernel_rfl)) k0 bel lt0) (trodAll_cons_mk (shut_int Tryz.underlying3 w1) trodAll_mk0)), rfl, bel.frame _, fun h => by cases h⟩

theorem over : Rows.storeNilRow.holds Tryz.pinned (OpenSpec.ofChange Rows.storeNilSpec) :=
  OpenClaim.holds_of_wide 5 Tryz.f5 rfl rfl rfl rfl rfl rfl rfl ⟨rfl, rfl, rfl, rfl, rfl⟩ rfl rfl rfl rfl rfl (by kernel_rfl) Tryz.func5 (by kernel_rfl)
    (of_decide_eq_true (by kernel_rfl)) (by unfold Func.isWrapper; first | (rw [if_pos (by decide +kernel)]; kernel_rfl) | (rw [if_neg (by decide +kernel)]; exact ⟨rfl, rfl⟩))
    (fun os started H enc _ => lifted os started H enc)
end storeNilFrame

/-- The statement. -/
theorem storeNil_holds : Rows.StoreNilSaid := storeNilFrame.over
#print axioms storeNil_holds
end Go.Proofs.YthmecljkackmbaaGreat
