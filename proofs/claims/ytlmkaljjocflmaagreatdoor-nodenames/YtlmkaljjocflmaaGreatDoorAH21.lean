/- Texts of one layer, one behind the other. -/
import Derived.Test.YtlmkaljjocflmaaGreatDoorAH1
import Derived.Test.YtlmkaljjocflmaaGreatDoorProg
import Derived.Shelf.RegionOpen
import Derived.Test.YtlmkaljjocflmaaGreatDoorAH3
import Derived.Test.YtlmkaljjocflmaaGreatDoorAM4
set_option maxRecDepth 100000
set_option maxHeartbeats 8000000
namespace Go.Proofs.YtlmkaljjocflmaaGreatDoor
open Go.RowKit
set_option linter.unusedVariables false
def cpl (z:Int):Int:=bits BinOp.xor IntKind.u8 (if IntKind.u8.signed=true then -1 else IntKind.u8.max) z
structure Lists (m bl base:Nat) (w:World) (vs:Nat→Value) (zs:Nat→List Int):Prop where
 cell:∀i,i<m→w.cell? ⟨bl,i,none⟩=some (vs i)
 own:∀i,i<m→Own .u8 5 base w (vs i) (zs i)
 apart:∀i j,i<m→j<m→i≠j→(vs i).ownBlock=none∨(vs i).ownBlock≠(vs j).ownBlock
 table:∀i,i<m→(vs i).ownBlock≠some bl
 lens:∀i,i<m→(zs i).length≤150000000000000
structure Copies (m bl base:Nat) (w0 wr:World) (vs us:Nat→Value) (zs:Nat→List Int) (k:Nat):Prop where
 cell:∀i,i<m→wr.cell? ⟨bl,i,none⟩=some (vs i)
 was:∀i,i<m→wr.cell? ⟨w0.heap.size,i,none⟩=some (us i)
 new:∀i,i<m→Own .u8 5 (w0.heap.size+1) wr (us i) (zs i)
 done:∀i,i<k→i<m→Own .u8 5 base wr (vs i) ((zs i).map cpl)
 left:∀i,k≤i→i<m→Own .u8 5 base wr (vs i) (zs i)
 below:Below base w0 wr
 keep:∀g,g<w0.heap.size→(∀i,i<m→(vs i).ownBlock≠some g)→wr.heap[g]? =w0.heap[g]?
def two {α:Type} (a b:α):Nat→α|0=>a|_=>b
def Run (B:Nat) (Q:Int→World→Prop):List Value→World→Prop
 |[],w=>Q 0 w
 |v::vs,w=>∃f first cap,v=.func (.func f) first cap∧(∀args w,(callFunc f args).run Tryz.prog w=.ok (.enter f args) w)∧Calls Tryz.prog f (first++cap) w fun E w'=>∃e,E=.returned (.int .i64 e)∧w'.heap[B]? =w.heap[B]?∧((e≠0∧Q e w')∨(e=0∧Run B Q vs w'))
theorem Run.cons {B:Nat}{Q:Int→World→Prop}{f:FuncId}{first cap xs:Array Value}{vs:List Value}{w:World}(eg:∀args w,(callFunc f args).run Tryz.prog w=.ok (.enter f args) w)(ha:first++cap=xs)(hc:Calls Tryz.prog f xs w fun E w'=>∃e,E=.returned (.int .i64 e)∧w'.heap[B]? =w.heap[B]?∧((e≠0∧Q e w')∨(e=0∧Run B Q vs w'))):Run B Q (.func (.func f) first cap::vs) w:=
 ⟨f,first,cap,rfl,eg,by rw[ha];exact hc⟩
theorem qP (B n:Nat)(fs:List Value)(w:World)(Q:Int→World→Prop)(hn:fs.length=n)(hl:n≤100)(hB:w.heap[B]? =some (.cells fs.toArray 228 (0,0)))(h:Run B Q fs w):
  Calls Tryz.prog 97 #[.slice (some ⟨B,0,none⟩) n n] w fun E w'=>∃e,E=.returned (.int .i64 e)∧Q e w':=by
 have H:=hide (And.intro hB h)
 have HN:=hide hn
 clear hB h hn
 go_enter Tryz.func97,Tryz.ntmps97
 go_wp2
 go_loopw [8] (fun iv wr=>∃(k:Nat),iv=.int .i64 k∧k≤n∧Hid (wr.heap[B]? =some (.cells fs.toArray 228 (0,0))∧Run B Q (fs.drop k) wr)) (fun iv _=>n-(intOf iv).toNat)
 case atStart=>exact⟨0,rfl,Nat.zero_le _,hide (by rw[List.drop_zero];exact H.out)⟩
 case round=>
  obtain⟨k,rfl,hk,HH⟩:=hrel
  by_cases hlt:k<n
  ·obtain⟨hb,hr⟩:=HH.out
   have hkl:k<fs.length:=by rw[HN.out];exact hlt
   rw[List.drop_eq_getElem_cons hkl]at hr
   obtain⟨f,first,cap,hv,eg,hc⟩:=hr
   have cell:wr.cell? ⟨B,k,none⟩=some (.func (.func f) first cap):=ai hb k (by simp[List.getElem?_eq_getElem hkl,hv])
   have HC:=hide hc
   have HB:=hide hb
   have hlt':(k:Int)<n:=by omega
   clear hc hb hv HH
   go_wp2_with fail
   refine HC.out.mono ?_
   rintro E w' ⟨e,rfl,hb',hd⟩
   rcases hd with⟨he,hq⟩|⟨rfl,hq⟩
   ·have HQ:=hide hq
    clear hq hb' HC
    have he':(e==0)=false:=by simpa using he
    go_wp2
    go_ret
    exact⟨e,rfl,HQ.out⟩
   ·have HQ:=hide (And.intro (hb'.trans HB.out) hq)
    clear hq hb' HC
    go_wp2
    go_roundw
    case rel=>exact⟨k+1,by simp,by omega,HQ⟩
    case measure=>simp[intOf];omega
  ·obtain rfl:k=n:=by omega
   have hr:=HH.out.2
   rw[List.drop_eq_nil_of_le (by rw[HN.out];exact Nat.le_refl _)]at hr
   have HR:Hid (Q 0 wr):=hide hr
   clear hr HH
   have hlt':¬(k:Int)<k:=by omega
   go_wp2
   go_ret
   exact⟨0,rfl,HR.out⟩
theorem aqs:Array.replicate 15 false=aj 15 0:=by kernel_rfl
theorem an2:(ay 4 Tryz.f74).size=15:=by kernel_rfl
theorem aoi:Region.free .any (ay 4 Tryz.f74) (aj 15 0) 0=true∧(Region.ready .any (ay 4 Tryz.f74) (aj 15 0)).contains 0=true∧(aj 15 0).setIfInBounds 0 true=aj 15 1:=⟨by kernel_rfl,by kernel_rfl,by kernel_rfl⟩
theorem aoP:Region.free .any (ay 4 Tryz.f74) (aj 15 1) 1=true∧(Region.ready .any (ay 4 Tryz.f74) (aj 15 1)).contains 1=true∧(aj 15 1).setIfInBounds 1 true=aj 15 3:=⟨by kernel_rfl,by kernel_rfl,by kernel_rfl⟩
theorem anY:Region.free .any (ay 4 Tryz.f74) (aj 15 3) 2=true∧(Region.ready .any (ay 4 Tryz.f74) (aj 15 3)).contains 2=true∧(aj 15 3).setIfInBounds 2 true=aj 15 7:=⟨by kernel_rfl,by kernel_rfl,by kernel_rfl⟩
theorem anh:Region.free .any (ay 4 Tryz.f74) (aj 15 7) 3=true∧(Region.ready .any (ay 4 Tryz.f74) (aj 15 7)).contains 3=true∧(aj 15 7).setIfInBounds 3 true=aj 15 15:=⟨by kernel_rfl,by kernel_rfl,by kernel_rfl⟩
theorem akO:Region.free .any (ay 4 Tryz.f74) (aj 15 15) 4=true∧(Region.ready .any (ay 4 Tryz.f74) (aj 15 15)).contains 4=true∧(aj 15 15).setIfInBounds 4 true=aj 15 31:=⟨by kernel_rfl,by kernel_rfl,by kernel_rfl⟩
theorem akL:Region.free .any (ay 4 Tryz.f74) (aj 15 31) 6=true∧(Region.ready .any (ay 4 Tryz.f74) (aj 15 31)).contains 6=true∧(aj 15 31).setIfInBounds 6 true=aj 15 95:=⟨by kernel_rfl,by kernel_rfl,by kernel_rfl⟩
theorem ajZ:Region.free .any (ay 4 Tryz.f74) (aj 15 95) 7=true∧(Region.ready .any (ay 4 Tryz.f74) (aj 15 95)).contains 7=true∧(aj 15 95).setIfInBounds 7 true=aj 15 223:=⟨by kernel_rfl,by kernel_rfl,by kernel_rfl⟩
theorem aiJ:Region.free .any (ay 4 Tryz.f74) (aj 15 223) 8=true∧(Region.ready .any (ay 4 Tryz.f74) (aj 15 223)).contains 8=true∧(aj 15 223).setIfInBounds 8 true=aj 15 479:=⟨by kernel_rfl,by kernel_rfl,by kernel_rfl⟩
theorem aiO:Region.free .any (ay 4 Tryz.f74) (aj 15 479) 9=true∧(Region.ready .any (ay 4 Tryz.f74) (aj 15 479)).contains 9=true∧(aj 15 479).setIfInBounds 9 true=aj 15 991:=⟨by kernel_rfl,by kernel_rfl,by kernel_rfl⟩
theorem afV:Region.free .any (ay 4 Tryz.f74) (aj 15 991) 10=true∧(Region.ready .any (ay 4 Tryz.f74) (aj 15 991)).contains 10=true∧(aj 15 991).setIfInBounds 10 true=aj 15 2015:=⟨by kernel_rfl,by kernel_rfl,by kernel_rfl⟩
theorem ai5:Region.ready .any (ay 4 Tryz.f74) (aj 15 2015)=[5,12]∧(aj 15 2015).setIfInBounds 5 true=aj 15 2047∧(aj 15 2015).setIfInBounds 12 true=aj 15 6111:=⟨by kernel_rfl,by kernel_rfl,by kernel_rfl⟩
theorem als:Region.ready .any (ay 4 Tryz.f74) (aj 15 2047)=[11,12]∧(aj 15 2047).setIfInBounds 11 true=aj 15 4095∧(aj 15 2047).setIfInBounds 12 true=aj 15 6143:=⟨by kernel_rfl,by kernel_rfl,by kernel_rfl⟩
theorem ajo:Region.ready .any (ay 4 Tryz.f74) (aj 15 4095)=[12]∧(aj 15 4095).setIfInBounds 12 true=aj 15 8191:=⟨by kernel_rfl,by kernel_rfl⟩
theorem wy:Region.ready .any (ay 4 Tryz.f74) (aj 15 8191)=[13]∧(aj 15 8191).setIfInBounds 13 true=aj 15 16383:=⟨by kernel_rfl,by kernel_rfl⟩
theorem nK:Region.free .any (ay 4 Tryz.f74) (aj 15 16383) 14=true∧(Region.ready .any (ay 4 Tryz.f74) (aj 15 16383)).contains 14=true∧(aj 15 16383).setIfInBounds 14 true=aj 15 32767:=⟨by kernel_rfl,by kernel_rfl,by kernel_rfl⟩
theorem abe:Region.ready .any (ay 4 Tryz.f74) (aj 15 32767)=[]:=by kernel_rfl
theorem acy:Region.ready .any (ay 4 Tryz.f74) (aj 15 6143)=[11]∧(aj 15 6143).setIfInBounds 11 true=aj 15 8191:=⟨by kernel_rfl,by kernel_rfl⟩
theorem ak7:Region.ready .any (ay 4 Tryz.f74) (aj 15 6111)=[5]∧(aj 15 6111).setIfInBounds 5 true=aj 15 6143:=⟨by kernel_rfl,by kernel_rfl⟩
end Go.Proofs.YtlmkaljjocflmaaGreatDoor
namespace Go.Proofs.YtlmkaljjocflmaaGreatDoor
set_option linter.unusedVariables false
namespace Rst
open Dm
open Cm (Cv lastE lastN)
open Pm (Pg)
open Orp (Se)
section
variable {z:Pg} {s:St} {ps:List Pg} {ss:List Se}
theorem fold_add (h:In z s ps ss){c:Cv}(h1:(add s [c]).1=0):Sto.fold (gK (add s [c]).2)=Tm.app (Sto.fold (gK s)) c.l:=by
 obtain⟨so,sf⟩:=h.gK
 obtain⟨b1,b2,b3,b4⟩:=so.bound
 rcases alc h [c]with⟨c1,_⟩|⟨_,_,_,c4,c5,_⟩|⟨c1,_⟩
 ·exact absurd h1 c1
 ·have hk:(lastN 0 s.r).toNat≤s.l.length:=by
   have e1:lastN 0 s.r+((s.l.drop (lastN 0 s.r).toNat).length:Int)=s.l.length:=sf
   omega
  unfold Sto.fold
  show Tm.app (Rl.tab (add s [c]).2.r) (Rl.ops ((add s [c]).2.l.drop (lastN 0 (add s [c]).2.r).toNat))=Tm.app (Tm.app (Rl.tab s.r) (Rl.ops (s.l.drop (lastN 0 s.r).toNat))) c.l
  rw[c4,c5,List.drop_append_of_le_length hk,Rl.ae3,Tm.abu]
 ·rw[h1]at c1;simp at c1
end
end Rst
end Go.Proofs.YtlmkaljjocflmaaGreatDoor
namespace Go.Proofs.YtlmkaljjocflmaaGreatDoor
open Go.RowKit
set_option linter.unusedVariables false
theorem ars:Array.replicate 19 false=aj 19 0:=by kernel_rfl
theorem amF:(ay 1 Tryz.f82).size=19:=by kernel_rfl
theorem aoF:Region.free .any (ay 1 Tryz.f82) (aj 19 0) 0=true∧(Region.ready .any (ay 1 Tryz.f82) (aj 19 0)).contains 0=true∧(aj 19 0).setIfInBounds 0 true=aj 19 1:=⟨by kernel_rfl,by kernel_rfl,by kernel_rfl⟩
theorem amP:Region.free .any (ay 1 Tryz.f82) (aj 19 1) 1=true∧(Region.ready .any (ay 1 Tryz.f82) (aj 19 1)).contains 1=true∧(aj 19 1).setIfInBounds 1 true=aj 19 3:=⟨by kernel_rfl,by kernel_rfl,by kernel_rfl⟩
theorem al6:Region.free .any (ay 1 Tryz.f82) (aj 19 3) 2=true∧(Region.ready .any (ay 1 Tryz.f82) (aj 19 3)).contains 2=true∧(aj 19 3).setIfInBounds 2 true=aj 19 7:=⟨by kernel_rfl,by kernel_rfl,by kernel_rfl⟩
theorem amN:Region.free .any (ay 1 Tryz.f82) (aj 19 7) 3=true∧(Region.ready .any (ay 1 Tryz.f82) (aj 19 7)).contains 3=true∧(aj 19 7).setIfInBounds 3 true=aj 19 15:=⟨by kernel_rfl,by kernel_rfl,by kernel_rfl⟩
theorem akA:Region.free .any (ay 1 Tryz.f82) (aj 19 15) 4=true∧(Region.ready .any (ay 1 Tryz.f82) (aj 19 15)).contains 4=true∧(aj 19 15).setIfInBounds 4 true=aj 19 31:=⟨by kernel_rfl,by kernel_rfl,by kernel_rfl⟩
theorem akV:Region.free .any (ay 1 Tryz.f82) (aj 19 31) 6=true∧(Region.ready .any (ay 1 Tryz.f82) (aj 19 31)).contains 6=true∧(aj 19 31).setIfInBounds 6 true=aj 19 95:=⟨by kernel_rfl,by kernel_rfl,by kernel_rfl⟩
theorem aiY:Region.free .any (ay 1 Tryz.f82) (aj 19 95) 7=true∧(Region.ready .any (ay 1 Tryz.f82) (aj 19 95)).contains 7=true∧(aj 19 95).setIfInBounds 7 true=aj 19 223:=⟨by kernel_rfl,by kernel_rfl,by kernel_rfl⟩
theorem aiv:Region.free .any (ay 1 Tryz.f82) (aj 19 223) 8=true∧(Region.ready .any (ay 1 Tryz.f82) (aj 19 223)).contains 8=true∧(aj 19 223).setIfInBounds 8 true=aj 19 479:=⟨by kernel_rfl,by kernel_rfl,by kernel_rfl⟩
theorem ahV:Region.free .any (ay 1 Tryz.f82) (aj 19 479) 9=true∧(Region.ready .any (ay 1 Tryz.f82) (aj 19 479)).contains 9=true∧(aj 19 479).setIfInBounds 9 true=aj 19 991:=⟨by kernel_rfl,by kernel_rfl,by kernel_rfl⟩
theorem afW:Region.free .any (ay 1 Tryz.f82) (aj 19 991) 10=true∧(Region.ready .any (ay 1 Tryz.f82) (aj 19 991)).contains 10=true∧(aj 19 991).setIfInBounds 10 true=aj 19 2015:=⟨by kernel_rfl,by kernel_rfl,by kernel_rfl⟩
theorem ai6:Region.ready .any (ay 1 Tryz.f82) (aj 19 2015)=[5,16]∧(aj 19 2015).setIfInBounds 5 true=aj 19 2047∧(aj 19 2015).setIfInBounds 16 true=aj 19 67551:=⟨by kernel_rfl,by kernel_rfl,by kernel_rfl⟩
theorem ale:Region.ready .any (ay 1 Tryz.f82) (aj 19 2047)=[11,16]∧(aj 19 2047).setIfInBounds 11 true=aj 19 4095∧(aj 19 2047).setIfInBounds 16 true=aj 19 67583:=⟨by kernel_rfl,by kernel_rfl,by kernel_rfl⟩
theorem ak4:Region.ready .any (ay 1 Tryz.f82) (aj 19 4095)=[12,16]∧(aj 19 4095).setIfInBounds 12 true=aj 19 8191∧(aj 19 4095).setIfInBounds 16 true=aj 19 69631:=⟨by kernel_rfl,by kernel_rfl,by kernel_rfl⟩
theorem aeP:Region.free .any (ay 1 Tryz.f82) (aj 19 8191) 13=true∧(Region.ready .any (ay 1 Tryz.f82) (aj 19 8191)).contains 13=true∧(aj 19 8191).setIfInBounds 13 true=aj 19 16383:=⟨by kernel_rfl,by kernel_rfl,by kernel_rfl⟩
theorem acT:Region.free .any (ay 1 Tryz.f82) (aj 19 16383) 14=true∧(Region.ready .any (ay 1 Tryz.f82) (aj 19 16383)).contains 14=true∧(aj 19 16383).setIfInBounds 14 true=aj 19 32767:=⟨by kernel_rfl,by kernel_rfl,by kernel_rfl⟩
theorem acY:Region.free .any (ay 1 Tryz.f82) (aj 19 32767) 15=true∧(Region.ready .any (ay 1 Tryz.f82) (aj 19 32767)).contains 15=true∧(aj 19 32767).setIfInBounds 15 true=aj 19 65535:=⟨by kernel_rfl,by kernel_rfl,by kernel_rfl⟩
theorem aiu:Region.ready .any (ay 1 Tryz.f82) (aj 19 65535)=[16]∧(aj 19 65535).setIfInBounds 16 true=aj 19 131071:=⟨by kernel_rfl,by kernel_rfl⟩
theorem mG:Region.ready .any (ay 1 Tryz.f82) (aj 19 131071)=[17]∧(aj 19 131071).setIfInBounds 17 true=aj 19 262143:=⟨by kernel_rfl,by kernel_rfl⟩
theorem jX:Region.free .any (ay 1 Tryz.f82) (aj 19 262143) 18=true∧(Region.ready .any (ay 1 Tryz.f82) (aj 19 262143)).contains 18=true∧(aj 19 262143).setIfInBounds 18 true=aj 19 524287:=⟨by kernel_rfl,by kernel_rfl,by kernel_rfl⟩
theorem wP:Region.ready .any (ay 1 Tryz.f82) (aj 19 524287)=[]:=by kernel_rfl
theorem sj:Region.ready .any (ay 1 Tryz.f82) (aj 19 69631)=[12]∧(aj 19 69631).setIfInBounds 12 true=aj 19 73727:=⟨by kernel_rfl,by kernel_rfl⟩
theorem nL:Region.free .any (ay 1 Tryz.f82) (aj 19 73727) 13=true∧(Region.ready .any (ay 1 Tryz.f82) (aj 19 73727)).contains 13=true∧(aj 19 73727).setIfInBounds 13 true=aj 19 81919:=⟨by kernel_rfl,by kernel_rfl,by kernel_rfl⟩
theorem nI:Region.free .any (ay 1 Tryz.f82) (aj 19 81919) 14=true∧(Region.ready .any (ay 1 Tryz.f82) (aj 19 81919)).contains 14=true∧(aj 19 81919).setIfInBounds 14 true=aj 19 98303:=⟨by kernel_rfl,by kernel_rfl,by kernel_rfl⟩
theorem nM:Region.free .any (ay 1 Tryz.f82) (aj 19 98303) 15=true∧(Region.ready .any (ay 1 Tryz.f82) (aj 19 98303)).contains 15=true∧(aj 19 98303).setIfInBounds 15 true=aj 19 131071:=⟨by kernel_rfl,by kernel_rfl,by kernel_rfl⟩
theorem aao:Region.ready .any (ay 1 Tryz.f82) (aj 19 67583)=[11]∧(aj 19 67583).setIfInBounds 11 true=aj 19 69631:=⟨by kernel_rfl,by kernel_rfl⟩
theorem ah6:Region.ready .any (ay 1 Tryz.f82) (aj 19 67551)=[5]∧(aj 19 67551).setIfInBounds 5 true=aj 19 67583:=⟨by kernel_rfl,by kernel_rfl⟩
end Go.Proofs.YtlmkaljjocflmaaGreatDoor
