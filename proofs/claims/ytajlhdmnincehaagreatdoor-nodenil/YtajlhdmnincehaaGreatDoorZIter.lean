/- Texts of one layer, one behind the other. -/
import Derived.Shelf.SlIter.Nil
import Derived.Shelf.SortM.Plain
import Derived.Shelf.SortM.SortNone
import Derived.Ground.GgzProg
import Derived.Ground.SlgmProg
import Derived.Test.YtajlhdmnincehaaGreatDoorProg
/- The library's contracts on a map's keys, sorted, laid by the kit's own command in plain words. -/
namespace Go.Proofs
open Go.RowKit Go.Maps Go.Sort Go.Shelf

def Tryz.keys302_ren : Go.Shelf.Ren := ⟨fun | 7 => 302 | 10 => 319 | n => n, fun | 23 => 265 | 26 => 9 | 3 => 263 | 28 => 332 | 0 => 0 | 27 => 331 | 33 => 347 | 4 => 4 | n => n, fun | n => n⟩
theorem Tryz.keys302 : Go.Proofs.SlLaysZ.n7 Tryz.prog Tryz.keys302_ren := {
  mixed := by kernel_rfl
  f7 := ⟨Tryz.f302.name, by decide, Tryz.func302.trans (congrArg some (by kernel_rfl))⟩
  f10 := ⟨Tryz.f319.name, by decide, Tryz.func319.trans (congrArg some (by kernel_rfl))⟩
  t0 := Tryz.underlying0
  a0 := Tryz.isAgg0
  z0 := Tryz.sizeOf0
  v0 := Tryz.zeroValue0
  t4 := Tryz.underlying4
  a4 := Tryz.isAgg4
  z4 := Tryz.sizeOf4
  v4 := Tryz.zeroValue4
  t23 := Tryz.underlying265
  a23 := Tryz.isAgg265
  z23 := Tryz.sizeOf265
  v23 := Tryz.zeroValue265
  t26 := Tryz.underlying9
  a26 := Tryz.isAgg9
  z26 := Tryz.sizeOf9
  v26 := Tryz.zeroValue9
  t27 := Tryz.underlying331
  a27 := Tryz.isAgg331
  z27 := Tryz.sizeOf331
  v27 := Tryz.zeroValue331
  t28 := Tryz.underlying332
  a28 := Tryz.isAgg332
  z28 := Tryz.sizeOf332
  v28 := Tryz.zeroValue332
  t33 := Tryz.underlying347
  a33 := Tryz.isAgg347
  z33 := Tryz.sizeOf347
  v33 := Tryz.zeroValue347 }
def Tryz.sorted301_ren : Go.Shelf.Ren := ⟨fun | 6 => 301 | 8 => 317 | 9 => 318 | 11 => 331 | 13 => 333 | 12 => 332 | 23 => 346 | 24 => 347 | 14 => 337 | 15 => 338 | 16 => 339 | 17 => 340 | 18 => 341 | 19 => 342 | 20 => 343 | 21 => 344 | 22 => 345 | 25 => 349 | 26 => 350 | 27 => 351 | 28 => 352 | 29 => 353 | 30 => 354 | 31 => 355 | n => n, fun | 26 => 9 | 28 => 332 | 24 => 329 | 0 => 0 | 3 => 3 | 37 => 309 | 48 => 371 | 50 => 280 | 4 => 4 | 40 => 364 | 39 => 363 | 45 => 49 | 5 => 5 | 9 => 9 | 51 => 373 | 55 => 377 | 57 => 379 | 58 => 380 | 33 => 347 | n => n, fun | n => n⟩
theorem Tryz.sorted301 : Go.Proofs.SlLaysZ.n6 Tryz.prog Tryz.sorted301_ren := {
  mixed := by kernel_rfl
  f6 := ⟨Tryz.f301.name, by decide, Tryz.func301.trans (congrArg some (by kernel_rfl))⟩
  f8 := ⟨Tryz.f317.name, by decide, Tryz.func317.trans (congrArg some (by kernel_rfl))⟩
  f11 := ⟨Tryz.f331.name, by decide, Tryz.func331.trans (congrArg some (by kernel_rfl))⟩
  t0 := Tryz.underlying0
  a0 := Tryz.isAgg0
  z0 := Tryz.sizeOf0
  v0 := Tryz.zeroValue0
  t24 := Tryz.underlying329
  a24 := Tryz.isAgg329
  z24 := Tryz.sizeOf329
  v24 := Tryz.zeroValue329
  t26 := Tryz.underlying9
  a26 := Tryz.isAgg9
  z26 := Tryz.sizeOf9
  v26 := Tryz.zeroValue9
  t28 := Tryz.underlying332
  a28 := Tryz.isAgg332
  z28 := Tryz.sizeOf332
  v28 := Tryz.zeroValue332
  i26 := by kernel_rfl }
def Tryz.sort318_ren : Go.Shelf.Ren := ⟨fun | 6 => 318 | 8 => 333 | 9 => 332 | 19 => 346 | 20 => 347 | 21 => 337 | 22 => 338 | 23 => 339 | 24 => 340 | 25 => 341 | 26 => 342 | 27 => 343 | 28 => 344 | 29 => 345 | 36 => 349 | 31 => 350 | 32 => 351 | 37 => 352 | 38 => 353 | 39 => 354 | 41 => 355 | n => n, fun | 27 => 329 | 29 => 9 | 3 => 3 | 32 => 309 | 26 => 329 | 0 => 0 | 44 => 371 | 46 => 280 | 4 => 4 | 36 => 364 | 35 => 363 | 41 => 49 | 5 => 5 | 9 => 9 | 53 => 373 | 57 => 377 | 63 => 379 | 64 => 380 | n => n, fun | n => n⟩
theorem Tryz.sort318 : Go.Proofs.SlLaysM.n6 Tryz.prog Tryz.sort318_ren := {
  mixed := by kernel_rfl
  f6 := ⟨Tryz.f318.name, by decide, Tryz.func318.trans (congrArg some (by kernel_rfl))⟩
  f8 := Tryz.func333.trans (congrArg some (by kernel_rfl))
  f9 := ⟨Tryz.f332.name, by decide, Tryz.func332.trans (congrArg some (by kernel_rfl))⟩
  f19 := Tryz.func346.trans (congrArg some (by kernel_rfl))
  f20 := Tryz.func347.trans (congrArg some (by kernel_rfl))
  f21 := ⟨Tryz.f337.name, by decide, Tryz.func337.trans (congrArg some (by kernel_rfl))⟩
  f22 := ⟨Tryz.f338.name, by decide, Tryz.func338.trans (congrArg some (by kernel_rfl))⟩
  f23 := ⟨Tryz.f339.name, by decide, Tryz.func339.trans (congrArg some (by kernel_rfl))⟩
  f24 := ⟨Tryz.f340.name, by decide, Tryz.func340.trans (congrArg some (by kernel_rfl))⟩
  f25 := ⟨Tryz.f341.name, by decide, Tryz.func341.trans (congrArg some (by kernel_rfl))⟩
  f26 := ⟨Tryz.f342.name, by decide, Tryz.func342.trans (congrArg some (by kernel_rfl))⟩
  f27 := ⟨Tryz.f343.name, by decide, Tryz.func343.trans (congrArg some (by kernel_rfl))⟩
  f28 := ⟨Tryz.f344.name, by decide, Tryz.func344.trans (congrArg some (by kernel_rfl))⟩
  f29 := ⟨Tryz.f345.name, by decide, Tryz.func345.trans (congrArg some (by kernel_rfl))⟩
  f31 := Tryz.func350.trans (congrArg some (by kernel_rfl))
  f32 := Tryz.func351.trans (congrArg some (by kernel_rfl))
  f36 := ⟨Tryz.f349.name, by decide, Tryz.func349.trans (congrArg some (by kernel_rfl))⟩
  f37 := ⟨Tryz.f352.name, by decide, Tryz.func352.trans (congrArg some (by kernel_rfl))⟩
  f38 := ⟨Tryz.f353.name, by decide, Tryz.func353.trans (congrArg some (by kernel_rfl))⟩
  f39 := ⟨Tryz.f354.name, by decide, Tryz.func354.trans (congrArg some (by kernel_rfl))⟩
  f41 := ⟨Tryz.f355.name, by decide, Tryz.func355.trans (congrArg some (by kernel_rfl))⟩
  t0 := Tryz.underlying0
  a0 := Tryz.isAgg0
  z0 := Tryz.sizeOf0
  v0 := Tryz.zeroValue0
  t3 := Tryz.underlying3
  a3 := Tryz.isAgg3
  z3 := Tryz.sizeOf3
  v3 := Tryz.zeroValue3
  t4 := Tryz.underlying4
  a4 := Tryz.isAgg4
  z4 := Tryz.sizeOf4
  v4 := Tryz.zeroValue4
  t5 := Tryz.underlying5
  a5 := Tryz.isAgg5
  z5 := Tryz.sizeOf5
  v5 := Tryz.zeroValue5
  t9 := Tryz.underlying9
  a9 := Tryz.isAgg9
  z9 := Tryz.sizeOf9
  v9 := Tryz.zeroValue9
  t26 := Tryz.underlying329
  a26 := Tryz.isAgg329
  z26 := Tryz.sizeOf329
  v26 := Tryz.zeroValue329
  t27 := Tryz.underlying329
  a27 := Tryz.isAgg329
  z27 := Tryz.sizeOf329
  v27 := Tryz.zeroValue329
  t29 := Tryz.underlying9
  a29 := Tryz.isAgg9
  z29 := Tryz.sizeOf9
  v29 := Tryz.zeroValue9
  t32 := Tryz.underlying309
  a32 := Tryz.isAgg309
  z32 := Tryz.sizeOf309
  v32 := Tryz.zeroValue309
  t35 := Tryz.underlying363
  a35 := Tryz.isAgg363
  z35 := Tryz.sizeOf363
  v35 := Tryz.zeroValue363
  t36 := Tryz.underlying364
  a36 := Tryz.isAgg364
  z36 := Tryz.sizeOf364
  v36 := Tryz.zeroValue364
  t41 := Tryz.underlying49
  a41 := Tryz.isAgg49
  z41 := Tryz.sizeOf49
  v41 := Tryz.zeroValue49
  t44 := Tryz.underlying371
  a44 := Tryz.isAgg371
  z44 := Tryz.sizeOf371
  v44 := Tryz.zeroValue371
  t46 := Tryz.underlying280
  a46 := Tryz.isAgg280
  z46 := Tryz.sizeOf280
  v46 := Tryz.zeroValue280
  t53 := Tryz.underlying373
  a53 := Tryz.isAgg373
  z53 := Tryz.sizeOf373
  v53 := Tryz.zeroValue373
  t57 := Tryz.underlying377
  a57 := Tryz.isAgg377
  z57 := Tryz.sizeOf377
  v57 := Tryz.zeroValue377
  t63 := Tryz.underlying379
  a63 := Tryz.isAgg379
  z63 := Tryz.sizeOf379
  v63 := Tryz.zeroValue379
  t64 := Tryz.underlying380
  a64 := Tryz.isAgg380
  z64 := Tryz.sizeOf380
  v64 := Tryz.zeroValue380 }
theorem Tryz.sorts301 (m : Nat) : AnyZ.SortsIn Tryz.prog Tryz.sorted301_ren Fence.wide m :=
  ⟨fun blk off cap ss W hH hblk hsz => callsIn_wide.2 (AnyM.slices_Sort_string Tryz.sort318 blk off cap ss W hH hblk hsz),
   fun p cap W => callsIn_wide.2 (AnyM.slices_Sort_string_none Tryz.sort318 p cap W)⟩

theorem Tryz.maps_Keys_302 (mb : Option Nat) (W : World) : CallsIn Fence.wide 5 Tryz.prog 302 #[.map mb] W fun e w' => e = .returned (.func (.func 319) #[] #[.pointer (some ⟨W.heap.size, 0, none⟩)]) ∧ w' = W.alloc (.cells #[.map mb] 265) :=
  AnyZ.keys_in Tryz.keys302 Fence.wide 5 trivial rfl mb W

set_option maxHeartbeats 1000000 in
theorem Tryz.slices_Sorted_keys_301_302 {H : Type} (b nn : Nat) (D0 : DataW H) (R : Value → Option (DataW H × List MemPlace)) (w : World) (hown : w.ownsMap Tryz.prog 9 R b nn D0) (hmax : Maps.size D0 ≤ maxLen) (hbytes : Maps.size D0 * 16 ≤ 140737488355328) :
    CallsIn Fence.wide 5 Tryz.prog 301 #[.func (.func 319) #[] #[.pointer (some ⟨w.heap.size, 0, none⟩)]] (w.alloc (.cells #[.map (some b)] 265)) fun e w' => ∃ (v : Value) (ss : List (List UInt8)), e = .returned v ∧ ss.Perm (strKeys D0) ∧
      w'.ownsRow (w.alloc (.cells #[.map (some b)] 265)).heap.size 9 1 v ss.length ((ss.mergeSort (fun x y => decide (x ≤ y))).map encStr) ∧ (v = .slice none 0 0 ↔ ss = []) ∧ Below (w.alloc (.cells #[.map (some b)] 265)).heap.size (w.alloc (.cells #[.map (some b)] 265)) w' := by
  have hbl := hown.lt
  have hseq : SeqGives Fence.wide 2 Tryz.prog 319 #[.pointer (some ⟨w.heap.size, 0, none⟩)] encStr (fun ss => ss.Perm (strKeys D0)) (Maps.size D0) (w.alloc (.cells #[.map (some b)] 265)) :=
    AnyZ.keys_gives (ρ := Tryz.keys302_ren) { Tryz.keys302 with } Fence.wide _ trivial rfl (by omega) w.heap.size b nn D0 _ (by simp) (by simp) (by
      obtain ⟨es, clock, hb, Ft, hs, hD⟩ := hown
      exact ⟨es, clock, (Below.heap_alloc _ _ b hbl).trans hb, Ft, hs, hD⟩)
  exact AnyZ.sorted_in Tryz.sorted301 Fence.wide 5 trivial trivial trivial trivial rfl (by omega) (Tryz.sorts301 _) (enters_of Tryz.func318 (by kernel_rfl) rfl) 319 #[.pointer (some ⟨w.heap.size, 0, none⟩)] trivial (enters_of Tryz.func319 (by kernel_rfl) rfl) _ _ hmax hbytes _ hseq

set_option maxHeartbeats 1000000 in
theorem Tryz.slices_Sorted_keys_nil_301_302 (w : World) :
    CallsIn Fence.wide 5 Tryz.prog 301 #[.func (.func 319) #[] #[.pointer (some ⟨w.heap.size, 0, none⟩)]] (w.alloc (.cells #[.map none] 265)) fun e w' => ∃ (v : Value) (ss : List (List UInt8)), e = .returned v ∧ ss = [] ∧
      w'.ownsRow (w.alloc (.cells #[.map none] 265)).heap.size 9 1 v ss.length ((ss.mergeSort (fun x y => decide (x ≤ y))).map encStr) ∧ (v = .slice none 0 0 ↔ ss = []) ∧ Below (w.alloc (.cells #[.map none] 265)).heap.size (w.alloc (.cells #[.map none] 265)) w' := by
  have hseq : SeqGives Fence.wide 2 Tryz.prog 319 #[.pointer (some ⟨w.heap.size, 0, none⟩)] encStr (fun ss : List (List UInt8) => ss = []) 0 (w.alloc (.cells #[.map none] 265)) :=
    AnyZ.keys_gives_nil (ρ := Tryz.keys302_ren) { Tryz.keys302 with } Fence.wide _ trivial rfl w.heap.size _ (by simp) (by simp)
  exact AnyZ.sorted_in Tryz.sorted301 Fence.wide 5 trivial trivial trivial trivial rfl (by omega) (Tryz.sorts301 _) (enters_of Tryz.func318 (by kernel_rfl) rfl) 319 #[.pointer (some ⟨w.heap.size, 0, none⟩)] trivial (enters_of Tryz.func319 (by kernel_rfl) rfl) _ 0 (Nat.zero_le _) (by omega) _ hseq

end Go.Proofs
