/- Texts. -/
import Derived.Shelf.SlIter.Nil
import Derived.Shelf.SortM.Plain
import Derived.Shelf.SortM.SortNone
import Derived.Ground.GgzProg
import Derived.Ground.SlgmProg
import Derived.Test.YtlmkaljjocflmaaGreatDoorProg
set_option maxRecDepth 100000
set_option maxHeartbeats 8000000
namespace Go.Proofs
open Go.RowKit Go.Maps Go.Sort Go.Shelf
def Tryz.keys337_ren:Go.Shelf.Ren:=⟨fun|7=>337|10=>347|n=>n,fun|23=>165|26=>9|3=>171|28=>360|0=>0|27=>359|33=>370|4=>4|n=>n,fun|n=>n⟩
theorem Tryz.keys337:Go.Proofs.SlLaysZ.n7 Tryz.prog Tryz.keys337_ren:={
 mixed:=by kernel_rfl
 f7:=⟨Tryz.f337.name,by decide,Tryz.func337.trans (congrArg some (by kernel_rfl))⟩
 f10:=⟨Tryz.f347.name,by decide,Tryz.func347.trans (congrArg some (by kernel_rfl))⟩
 t0:=Tryz.underlying0
 a0:=Tryz.isAgg0
 z0:=Tryz.sizeOf0
 v0:=Tryz.zeroValue0
 t4:=Tryz.underlying4
 a4:=Tryz.isAgg4
 z4:=Tryz.sizeOf4
 v4:=Tryz.zeroValue4
 t23:=Tryz.underlying165
 a23:=Tryz.isAgg165
 z23:=Tryz.sizeOf165
 v23:=Tryz.zeroValue165
 t26:=Tryz.underlying9
 a26:=Tryz.isAgg9
 z26:=Tryz.sizeOf9
 v26:=Tryz.zeroValue9
 t27:=Tryz.underlying359
 a27:=Tryz.isAgg359
 z27:=Tryz.sizeOf359
 v27:=Tryz.zeroValue359
 t28:=Tryz.underlying360
 a28:=Tryz.isAgg360
 z28:=Tryz.sizeOf360
 v28:=Tryz.zeroValue360
 t33:=Tryz.underlying370
 a33:=Tryz.isAgg370
 z33:=Tryz.sizeOf370
 v33:=Tryz.zeroValue370}
def Tryz.sorted336_ren:Go.Shelf.Ren:=⟨fun|6=>336|8=>345|9=>346|11=>351|13=>353|12=>352|23=>365|24=>366|14=>356|15=>357|16=>358|17=>359|18=>360|19=>361|20=>362|21=>363|22=>364|25=>368|26=>369|27=>370|28=>371|29=>372|30=>373|31=>374|n=>n,fun|26=>9|28=>360|24=>100|0=>0|3=>3|37=>258|48=>388|50=>212|4=>4|40=>381|39=>380|45=>89|5=>5|9=>9|51=>390|55=>394|57=>396|58=>397|33=>370|n=>n,fun|n=>n⟩
theorem Tryz.sorted336:Go.Proofs.SlLaysZ.n6 Tryz.prog Tryz.sorted336_ren:={
 mixed:=by kernel_rfl
 f6:=⟨Tryz.f336.name,by decide,Tryz.func336.trans (congrArg some (by kernel_rfl))⟩
 f8:=⟨Tryz.f345.name,by decide,Tryz.func345.trans (congrArg some (by kernel_rfl))⟩
 f11:=⟨Tryz.f351.name,by decide,Tryz.func351.trans (congrArg some (by kernel_rfl))⟩
 t0:=Tryz.underlying0
 a0:=Tryz.isAgg0
 z0:=Tryz.sizeOf0
 v0:=Tryz.zeroValue0
 t24:=Tryz.underlying100
 a24:=Tryz.isAgg100
 z24:=Tryz.sizeOf100
 v24:=Tryz.zeroValue100
 t26:=Tryz.underlying9
 a26:=Tryz.isAgg9
 z26:=Tryz.sizeOf9
 v26:=Tryz.zeroValue9
 t28:=Tryz.underlying360
 a28:=Tryz.isAgg360
 z28:=Tryz.sizeOf360
 v28:=Tryz.zeroValue360
 i26:=by kernel_rfl}
def Tryz.sort346_ren:Go.Shelf.Ren:=⟨fun|6=>346|8=>353|9=>352|19=>365|20=>366|21=>356|22=>357|23=>358|24=>359|25=>360|26=>361|27=>362|28=>363|29=>364|36=>368|31=>369|32=>370|37=>371|38=>372|39=>373|41=>374|n=>n,fun|27=>100|29=>9|3=>3|32=>258|26=>100|0=>0|44=>388|46=>212|4=>4|36=>381|35=>380|41=>89|5=>5|9=>9|53=>390|57=>394|63=>396|64=>397|n=>n,fun|n=>n⟩
theorem Tryz.sort346:Go.Proofs.SlLaysM.n6 Tryz.prog Tryz.sort346_ren:={
 mixed:=by kernel_rfl
 f6:=⟨Tryz.f346.name,by decide,Tryz.func346.trans (congrArg some (by kernel_rfl))⟩
 f8:=Tryz.func353.trans (congrArg some (by kernel_rfl))
 f9:=⟨Tryz.f352.name,by decide,Tryz.func352.trans (congrArg some (by kernel_rfl))⟩
 f19:=Tryz.func365.trans (congrArg some (by kernel_rfl))
 f20:=Tryz.func366.trans (congrArg some (by kernel_rfl))
 f21:=⟨Tryz.f356.name,by decide,Tryz.func356.trans (congrArg some (by kernel_rfl))⟩
 f22:=⟨Tryz.f357.name,by decide,Tryz.func357.trans (congrArg some (by kernel_rfl))⟩
 f23:=⟨Tryz.f358.name,by decide,Tryz.func358.trans (congrArg some (by kernel_rfl))⟩
 f24:=⟨Tryz.f359.name,by decide,Tryz.func359.trans (congrArg some (by kernel_rfl))⟩
 f25:=⟨Tryz.f360.name,by decide,Tryz.func360.trans (congrArg some (by kernel_rfl))⟩
 f26:=⟨Tryz.f361.name,by decide,Tryz.func361.trans (congrArg some (by kernel_rfl))⟩
 f27:=⟨Tryz.f362.name,by decide,Tryz.func362.trans (congrArg some (by kernel_rfl))⟩
 f28:=⟨Tryz.f363.name,by decide,Tryz.func363.trans (congrArg some (by kernel_rfl))⟩
 f29:=⟨Tryz.f364.name,by decide,Tryz.func364.trans (congrArg some (by kernel_rfl))⟩
 f31:=Tryz.func369.trans (congrArg some (by kernel_rfl))
 f32:=Tryz.func370.trans (congrArg some (by kernel_rfl))
 f36:=⟨Tryz.f368.name,by decide,Tryz.func368.trans (congrArg some (by kernel_rfl))⟩
 f37:=⟨Tryz.f371.name,by decide,Tryz.func371.trans (congrArg some (by kernel_rfl))⟩
 f38:=⟨Tryz.f372.name,by decide,Tryz.func372.trans (congrArg some (by kernel_rfl))⟩
 f39:=⟨Tryz.f373.name,by decide,Tryz.func373.trans (congrArg some (by kernel_rfl))⟩
 f41:=⟨Tryz.f374.name,by decide,Tryz.func374.trans (congrArg some (by kernel_rfl))⟩
 t0:=Tryz.underlying0
 a0:=Tryz.isAgg0
 z0:=Tryz.sizeOf0
 v0:=Tryz.zeroValue0
 t3:=Tryz.underlying3
 a3:=Tryz.isAgg3
 z3:=Tryz.sizeOf3
 v3:=Tryz.zeroValue3
 t4:=Tryz.underlying4
 a4:=Tryz.isAgg4
 z4:=Tryz.sizeOf4
 v4:=Tryz.zeroValue4
 t5:=Tryz.underlying5
 a5:=Tryz.isAgg5
 z5:=Tryz.sizeOf5
 v5:=Tryz.zeroValue5
 t9:=Tryz.underlying9
 a9:=Tryz.isAgg9
 z9:=Tryz.sizeOf9
 v9:=Tryz.zeroValue9
 t26:=Tryz.underlying100
 a26:=Tryz.isAgg100
 z26:=Tryz.sizeOf100
 v26:=Tryz.zeroValue100
 t27:=Tryz.underlying100
 a27:=Tryz.isAgg100
 z27:=Tryz.sizeOf100
 v27:=Tryz.zeroValue100
 t29:=Tryz.underlying9
 a29:=Tryz.isAgg9
 z29:=Tryz.sizeOf9
 v29:=Tryz.zeroValue9
 t32:=Tryz.underlying258
 a32:=Tryz.isAgg258
 z32:=Tryz.sizeOf258
 v32:=Tryz.zeroValue258
 t35:=Tryz.underlying380
 a35:=Tryz.isAgg380
 z35:=Tryz.sizeOf380
 v35:=Tryz.zeroValue380
 t36:=Tryz.underlying381
 a36:=Tryz.isAgg381
 z36:=Tryz.sizeOf381
 v36:=Tryz.zeroValue381
 t41:=Tryz.underlying89
 a41:=Tryz.isAgg89
 z41:=Tryz.sizeOf89
 v41:=Tryz.zeroValue89
 t44:=Tryz.underlying388
 a44:=Tryz.isAgg388
 z44:=Tryz.sizeOf388
 v44:=Tryz.zeroValue388
 t46:=Tryz.underlying212
 a46:=Tryz.isAgg212
 z46:=Tryz.sizeOf212
 v46:=Tryz.zeroValue212
 t53:=Tryz.underlying390
 a53:=Tryz.isAgg390
 z53:=Tryz.sizeOf390
 v53:=Tryz.zeroValue390
 t57:=Tryz.underlying394
 a57:=Tryz.isAgg394
 z57:=Tryz.sizeOf394
 v57:=Tryz.zeroValue394
 t63:=Tryz.underlying396
 a63:=Tryz.isAgg396
 z63:=Tryz.sizeOf396
 v63:=Tryz.zeroValue396
 t64:=Tryz.underlying397
 a64:=Tryz.isAgg397
 z64:=Tryz.sizeOf397
 v64:=Tryz.zeroValue397}
theorem Tryz.sorts336 (m:Nat):AnyZ.SortsIn Tryz.prog Tryz.sorted336_ren Fence.wide m:=
 ⟨fun blk off cap ss W hH hblk hsz=>callsIn_wide.2 (AnyM.slices_Sort_string Tryz.sort346 blk off cap ss W hH hblk hsz),
  fun p cap W=>callsIn_wide.2 (AnyM.slices_Sort_string_none Tryz.sort346 p cap W)⟩
theorem Tryz.maps_Keys_337 (mb:Option Nat)(W:World):CallsIn Fence.wide 5 Tryz.prog 337 #[.map mb] W fun e w'=>e=.returned (.func (.func 347) #[] #[.pointer (some ⟨W.heap.size,0,none⟩)])∧w'=W.alloc (.cells #[.map mb] 165):=
 AnyZ.keys_in Tryz.keys337 Fence.wide 5 trivial rfl mb W
theorem Tryz.slices_Sorted_keys_336_337 {H:Type}(b nn:Nat)(D0:DataW H)(R:Value→Option (DataW H×List MemPlace))(w:World)(hown:w.ownsMap Tryz.prog 9 R b nn D0)(hmax:Maps.size D0≤maxLen)(hbytes:Maps.size D0*16≤140737488355328):
  CallsIn Fence.wide 5 Tryz.prog 336 #[.func (.func 347) #[] #[.pointer (some ⟨w.heap.size,0,none⟩)]] (w.alloc (.cells #[.map (some b)] 165)) fun e w'=>∃(v:Value) (ss:List (List UInt8)),e=.returned v∧ss.Perm (strKeys D0)∧
   w'.ownsRow (w.alloc (.cells #[.map (some b)] 165)).heap.size 9 1 v ss.length ((ss.mergeSort (fun x y=>decide (x≤y))).map encStr)∧(v=.slice none 0 0↔ss=[])∧Below (w.alloc (.cells #[.map (some b)] 165)).heap.size (w.alloc (.cells #[.map (some b)] 165)) w':=by
 have hbl:=hown.lt
 have hseq:SeqGives Fence.wide 2 Tryz.prog 347 #[.pointer (some ⟨w.heap.size,0,none⟩)] encStr (fun ss=>ss.Perm (strKeys D0)) (Maps.size D0) (w.alloc (.cells #[.map (some b)] 165)):=
  AnyZ.keys_gives (ρ:=Tryz.keys337_ren) {Tryz.keys337 with} Fence.wide _ trivial rfl (by omega) w.heap.size b nn D0 _ (by simp) (by simp) (by
   obtain⟨es,clock,hb,Ft,hs,hD⟩:=hown
   exact⟨es,clock,(Below.heap_alloc _ _ b hbl).trans hb,Ft,hs,hD⟩)
 exact AnyZ.sorted_in Tryz.sorted336 Fence.wide 5 trivial trivial trivial trivial rfl (by omega) (Tryz.sorts336 _) (enters_of Tryz.func346 (by kernel_rfl) rfl) 347 #[.pointer (some ⟨w.heap.size,0,none⟩)] trivial (enters_of Tryz.func347 (by kernel_rfl) rfl) _ _ hmax hbytes _ hseq
theorem Tryz.slices_Sorted_keys_nil_336_337 (w:World):
  CallsIn Fence.wide 5 Tryz.prog 336 #[.func (.func 347) #[] #[.pointer (some ⟨w.heap.size,0,none⟩)]] (w.alloc (.cells #[.map none] 165)) fun e w'=>∃(v:Value) (ss:List (List UInt8)),e=.returned v∧ss=[]∧
   w'.ownsRow (w.alloc (.cells #[.map none] 165)).heap.size 9 1 v ss.length ((ss.mergeSort (fun x y=>decide (x≤y))).map encStr)∧(v=.slice none 0 0↔ss=[])∧Below (w.alloc (.cells #[.map none] 165)).heap.size (w.alloc (.cells #[.map none] 165)) w':=by
 have hseq:SeqGives Fence.wide 2 Tryz.prog 347 #[.pointer (some ⟨w.heap.size,0,none⟩)] encStr (fun ss:List (List UInt8)=>ss=[]) 0 (w.alloc (.cells #[.map none] 165)):=
  AnyZ.keys_gives_nil (ρ:=Tryz.keys337_ren) {Tryz.keys337 with} Fence.wide _ trivial rfl w.heap.size _ (by simp) (by simp)
 exact AnyZ.sorted_in Tryz.sorted336 Fence.wide 5 trivial trivial trivial trivial rfl (by omega) (Tryz.sorts336 _) (enters_of Tryz.func346 (by kernel_rfl) rfl) 347 #[.pointer (some ⟨w.heap.size,0,none⟩)] trivial (enters_of Tryz.func347 (by kernel_rfl) rfl) _ 0 (Nat.zero_le _) (by omega) _ hseq
end Go.Proofs
