/- Texts. -/
import Derived.Test.YtlmkaljjocflmaaGreatDoorBH1
import Derived.Test.YtlmkaljjocflmaaGreatDoorProg
import Derived.Shelf.RegionOpen
import Derived.Test.YtlmkaljjocflmaaGreatDoorBH13
import Derived.SizedLaws
import Derived.Lib.SmallJoins
import Derived.Deep.Slices
set_option maxRecDepth 100000
set_option maxHeartbeats 8000000
set_option linter.unusedVariables false
open Go.Proofs.Tryz
namespace Go.Proofs.YtlmkaljjocflmaaGreatDoor
open Go.RowKit
def Run (B:Nat) (Q:Int→World→Prop):List Value→World→Prop
 |[],w=>Q 0 w
 |v::vs,w=>∃f first cap,v=.func (.func f) first cap∧(∀args w,(callFunc f args).run prog w=.ok (.enter f args) w)∧Calls prog f (first++cap) w fun E w'=>∃e,E=.returned (.int .i64 e)∧w'.heap[B]? =w.heap[B]?∧((e≠0∧Q e w')∨(e=0∧Run B Q vs w'))
theorem Run.cons {B:Nat}{Q:Int→World→Prop}{f:FuncId}{first cap xs:Array Value}{vs:List Value}{w:World}(eg:∀args w,(callFunc f args).run prog w=.ok (.enter f args) w)(ha:first++cap=xs)(hc:Calls prog f xs w fun E w'=>∃e,E=.returned (.int .i64 e)∧w'.heap[B]? =w.heap[B]?∧((e≠0∧Q e w')∨(e=0∧Run B Q vs w'))):Run B Q (.func (.func f) first cap::vs) w:=
 ⟨f,first,cap,rfl,eg,by rw[ha];exact hc⟩
theorem sH (B n:Nat)(fs:List Value)(w:World)(Q:Int→World→Prop)(hn:fs.length=n)(hl:n≤100)(hB:w.heap[B]? =some (.cells fs.toArray 228 (0,0)))(h:Run B Q fs w):
  Calls prog 97 #[.slice (some ⟨B,0,none⟩) n n] w fun E w'=>∃e,E=.returned (.int .i64 e)∧Q e w':=by
 have H:=hide (And.intro hB h)
 have HN:=hide hn
 clear hB h hn
 go_enter func97,ntmps97
 go_wp2
 go_loopw [8] (fun iv wr=>∃(k:Nat),iv=.int .i64 k∧k≤n∧Hid (wr.heap[B]? =some (.cells fs.toArray 228 (0,0))∧Run B Q (fs.drop k) wr)) (fun iv _=>n-(intOf iv).toNat)
 case atStart=>exact⟨0,rfl,Nat.zero_le _,hide (by rw[List.drop_zero];exact H.out)⟩
 case round=>
  obtain⟨k,rfl,hk,HH⟩:=hrel
  by_cases hlt:k<n
  ·obtain⟨hb,hr⟩:=HH.out
   have hkl:k<fs.length:=by rw[HN.out];exact hlt
   rw[List.drop_eq_getElem_cons hkl]at hr
   obtain⟨f,first,cap,hv,eg,hc⟩:=hr
   have cell:wr.cell? ⟨B,k,none⟩=some (.func (.func f) first cap):=ai hb k (by simp[List.getElem?_eq_getElem hkl,hv])
   have HC:=hide hc
   have HB:=hide hb
   have hlt':(k:Int)<n:=by omega
   clear hc hb hv HH
   go_wp2_with fail
   refine HC.out.mono ?_
   rintro E w' ⟨e,rfl,hb',hd⟩
   rcases hd with⟨he,hq⟩|⟨rfl,hq⟩
   ·have HQ:=hide hq
    clear hq hb' HC
    have he':(e==0)=false:=by simpa using he
    go_wp2
    go_ret
    exact⟨e,rfl,HQ.out⟩
   ·have HQ:=hide (And.intro (hb'.trans HB.out) hq)
    clear hq hb' HC
    go_wp2
    go_roundw
    case rel=>exact⟨k+1,by simp,by omega,HQ⟩
    case measure=>simp[intOf];omega
  ·obtain rfl:k=n:=by omega
   have hr:=HH.out.2
   rw[List.drop_eq_nil_of_le (by rw[HN.out];exact Nat.le_refl _)]at hr
   have HR:Hid (Q 0 wr):=hide hr
   clear hr HH
   have hlt':¬(k:Int)<k:=by omega
   go_wp2
   go_ret
   exact⟨0,rfl,HR.out⟩
def I64 (z:Int):Prop:=-9223372036854775808≤z∧z≤9223372036854775807
def pk (x n:Int):Int:=if x.tmod n<0 then x.tmod n+n else x.tmod n
theorem asD (x n:Int)(hn:0<n):0≤pk x n∧pk x n<n:=by
 have ht1:x.tmod n<n:=Int.tmod_lt_of_pos x hn
 have ht2:-n<x.tmod n:=Int.lt_tmod_of_pos x hn
 unfold pk
 split<;>omega
theorem xy (x n:Int)(w:World)(hn:0<n)(hn2:n<9223372036854775808)(hx:I64 x):
  Calls prog 11 #[.int .i64 x,.int .i64 n] w fun e w'=>e=.returned (.int .i64 (pk x n))∧w=w':=by
 have hnz:(n==0)=false:=by simp;omega
 obtain⟨hx1,hx2⟩:=hx
 have ht1:x.tmod n<n:=Int.tmod_lt_of_pos x hn
 have ht2:-n<x.tmod n:=Int.lt_tmod_of_pos x hn
 by_cases h:x.tmod n<0
 ·have e:pk x n=x.tmod n+n:=by simp[pk,h]
  rw[e]
  clear e
  go_enter func11,ntmps11
  go_wp2
  go_ret
  exact⟨jh (by omega),rfl⟩
 ·have e:pk x n=x.tmod n:=by simp[pk,h]
  rw[e]
  clear e
  go_enter func11,ntmps11
  go_wp2
  go_ret
  exact⟨jh (by omega),rfl⟩
def aZ.ck (m:Int):Int:=if 1≤m∧m≤16 then 0 else 2
abbrev aZ.In (e a:Int):Prop:=0≤e∧e≤1048576∧0≤a∧a≤e
def aZ.oV (e a:Int):Int:=if 0≤e∧e≤1048576∧0≤a∧a≤e then e-a else 0
def aZ.oE (e a:Int):Int:=if 0≤e∧e≤1048576∧0≤a∧a≤e then 0 else 2
def aZ.ad (e a m:Int):Int:=if 1≤m∧m≤16 then(if 0≤e∧e≤1048576∧0≤a∧a≤e then(if m≤e-a then 8 else if e=1048576 then 2 else 0)else 2)else 2
def aZ.kV (e a t:Int):Int:=if 0≤e∧e≤1048576∧0≤a∧a≤e then(if t≤a then a else if t≤e then t else e)else 0
theorem kI (m:Int)(w:World):Calls prog 71 #[.int .i64 m] w fun E w'=>E=.returned (.int .i64 (aZ.ck m))∧w=w':=by
 by_cases h1:m<1
 ·rw[show aZ.ck m=2 from if_neg (by omega)]
  go_enter func71,ntmps71
  go_wp2
  go_ret
  exact⟨rfl,rfl⟩
 ·by_cases h2:16<m
  ·rw[show aZ.ck m=2 from if_neg (by omega)]
   go_enter func71,ntmps71
   go_wp2
   go_ret
   exact⟨rfl,rfl⟩
  ·rw[show aZ.ck m=0 from if_pos (by omega)]
   go_enter func71,ntmps71
   go_wp2
   go_ret
   exact⟨rfl,rfl⟩
theorem iJ (e a:Int)(w:World):Calls prog 78 #[.int .i64 e,.int .i64 a] w fun E w'=>E=.returned (.tuple #[.int .i64 (aZ.oV e a),.int .i64 (aZ.oE e a)])∧w=w':=by
 by_cases h1:e<0
 ·rw[show aZ.oV e a=0 from if_neg (by omega),show aZ.oE e a=2 from if_neg (by omega)]
  go_enter func78,ntmps78
  go_wp2
  go_ret2
  exact⟨rfl,rfl⟩
 ·by_cases h2:1048576<e
  ·rw[show aZ.oV e a=0 from if_neg (by omega),show aZ.oE e a=2 from if_neg (by omega)]
   go_enter func78,ntmps78
   go_wp2
   go_ret2
   exact⟨rfl,rfl⟩
  ·by_cases h3:a<0
   ·rw[show aZ.oV e a=0 from if_neg (by omega),show aZ.oE e a=2 from if_neg (by omega)]
    go_enter func78,ntmps78
    go_wp2
    go_ret2
    exact⟨rfl,rfl⟩
   ·by_cases h4:e<a
    ·rw[show aZ.oV e a=0 from if_neg (by omega),show aZ.oE e a=2 from if_neg (by omega)]
     go_enter func78,ntmps78
     go_wp2
     go_ret2
     exact⟨rfl,rfl⟩
    ·rw[show aZ.oV e a=e-a from if_pos (by omega),show aZ.oE e a=0 from if_pos (by omega)]
     go_enter func78,ntmps78
     go_wp2
     go_ret2
     exact⟨rfl,rfl⟩
theorem aZ.awH {e a:Int}(h:aZ.In e a):aZ.oV e a=e-a∧aZ.oE e a=0:=⟨if_pos h,if_pos h⟩
theorem aZ.aw1 {e a:Int}(h:¬aZ.In e a):aZ.oV e a=0∧aZ.oE e a=2:=⟨if_neg h,if_neg h⟩
theorem aZ.aex {m:Int}(h:1≤m∧m≤16):aZ.ck m=0:=if_pos h
theorem aZ.azf {m:Int}(h:¬(1≤m∧m≤16)):aZ.ck m=2:=if_neg h
theorem ajh (e a m:Int)(w:World):Calls prog 153 #[.int .i64 e,.int .i64 a,.int .i64 m] w fun E w'=>E=.returned (.int .i64 (aZ.ad e a m))∧w=w':=by
 by_cases h1:1≤m∧m≤16
 ·by_cases h2:aZ.In e a
  ·obtain⟨o1,o2⟩:=aZ.awH h2
   by_cases h3:m≤e-a
   ·rw[show aZ.ad e a m=8 by unfold aZ.ad;rw[if_pos h1,if_pos h2,if_pos h3]]
    go_enter func153,ntmps153
    go_wp2_with fail
    refine(kI m w).mono ?_
    rintro E w2 ⟨rfl,rfl⟩
    rw[aZ.aex h1]
    go_wp2_with fail
    refine(iJ e a w).mono ?_
    rintro E w2 ⟨rfl,rfl⟩
    rw[o1,o2]
    obtain⟨h4,h5⟩:=h1
    obtain⟨h6,h7,h8,h9⟩:=h2
    clear o1 o2
    go_wp2
    go_ret
    exact⟨rfl,rfl⟩
   ·by_cases h10:e=1048576
    ·rw[show aZ.ad e a m=2 by unfold aZ.ad;rw[if_pos h1,if_pos h2,if_neg h3,if_pos h10]]
     replace h10:1048576≤e:=by omega
     go_enter func153,ntmps153
     go_wp2_with fail
     refine(kI m w).mono ?_
     rintro E w2 ⟨rfl,rfl⟩
     rw[aZ.aex h1]
     go_wp2_with fail
     refine(iJ e a w).mono ?_
     rintro E w2 ⟨rfl,rfl⟩
     rw[o1,o2]
     obtain⟨h4,h5⟩:=h1
     obtain⟨h6,h7,h8,h9⟩:=h2
     clear o1 o2
     go_wp2
     go_ret
     exact⟨rfl,rfl⟩
    ·rw[show aZ.ad e a m=0 by unfold aZ.ad;rw[if_pos h1,if_pos h2,if_neg h3,if_neg h10]]
     have h11:(e==1048576)=false:=by simpa using h10
     go_enter func153,ntmps153
     go_wp2_with fail
     refine(kI m w).mono ?_
     rintro E w2 ⟨rfl,rfl⟩
     rw[aZ.aex h1]
     go_wp2_with fail
     refine(iJ e a w).mono ?_
     rintro E w2 ⟨rfl,rfl⟩
     rw[o1,o2]
     obtain⟨h4,h5⟩:=h1
     obtain⟨h6,h7,h8,h9⟩:=h2
     clear o1 o2
     go_wp2
     go_ret
     exact⟨rfl,rfl⟩
  ·obtain⟨o1,o2⟩:=aZ.aw1 h2
   rw[show aZ.ad e a m=2 by unfold aZ.ad;rw[if_pos h1,if_neg h2]]
   go_enter func153,ntmps153
   go_wp2_with fail
   refine(kI m w).mono ?_
   rintro E w2 ⟨rfl,rfl⟩
   rw[aZ.aex h1]
   go_wp2_with fail
   refine(iJ e a w).mono ?_
   rintro E w2 ⟨rfl,rfl⟩
   rw[o1,o2]
   go_wp2
   go_ret
   exact⟨rfl,rfl⟩
 ·rw[show aZ.ad e a m=2 by unfold aZ.ad;rw[if_neg h1]]
  go_enter func153,ntmps153
  go_wp2_with fail
  refine(kI m w).mono ?_
  rintro E w2 ⟨rfl,rfl⟩
  rw[aZ.azf h1]
  go_wp2_with fail
  refine(iJ e a w).mono ?_
  rintro E w2 ⟨rfl,rfl⟩
  generalize aZ.oV e a=x
  generalize aZ.oE e a=y
  go_wp2
  go_ret
  exact⟨rfl,rfl⟩
theorem aj0 (e a t:Int)(w:World):Calls prog 284 #[.int .i64 e,.int .i64 a,.int .i64 t] w fun E w'=>E=.returned (.tuple #[.int .i64 (aZ.kV e a t),.int .i64 (aZ.oE e a)])∧w=w':=by
 by_cases h2:aZ.In e a
 ·obtain⟨o1,o2⟩:=aZ.awH h2
  rw[o2]
  by_cases h3:t<a
  ·rw[show aZ.kV e a t=a by unfold aZ.kV;rw[if_pos h2,if_pos (by omega)]]
   have h4:¬t>a:=by omega
   have h5:¬e<a:=by have:=h2.2.2.2;omega
   go_enter func284,ntmps284
   go_wp2_with fail
   refine(iJ e a w).mono ?_
   rintro E w2 ⟨rfl,rfl⟩
   rw[o1,o2]
   obtain⟨h6,h7,h8,h9⟩:=h2
   clear o1 o2
   go_wp2
   go_ret2
   exact⟨rfl,rfl⟩
  ·by_cases h4:e<t
   ·have h5:t>a:=by have:=h2.2.2.2;omega
    rw[show aZ.kV e a t=e by unfold aZ.kV;rw[if_pos h2,if_neg (by omega),if_neg (by omega)]]
    go_enter func284,ntmps284
    go_wp2_with fail
    refine(iJ e a w).mono ?_
    rintro E w2 ⟨rfl,rfl⟩
    rw[o1,o2]
    obtain⟨h6,h7,h8,h9⟩:=h2
    clear o1 o2
    go_wp2
    go_ret2
    exact⟨rfl,rfl⟩
   ·by_cases h5:t>a
    ·rw[show aZ.kV e a t=t by unfold aZ.kV;rw[if_pos h2,if_neg (by omega),if_pos (by omega)]]
     go_enter func284,ntmps284
     go_wp2_with fail
     refine(iJ e a w).mono ?_
     rintro E w2 ⟨rfl,rfl⟩
     rw[o1,o2]
     obtain⟨h6,h7,h8,h9⟩:=h2
     clear o1 o2
     go_wp2
     go_ret2
     exact⟨rfl,rfl⟩
    ·obtain rfl:t=a:=by omega
     rw[show aZ.kV e t t=t by unfold aZ.kV;rw[if_pos h2,if_pos (by omega)]]
     go_enter func284,ntmps284
     go_wp2_with fail
     refine(iJ e t w).mono ?_
     rintro E w2 ⟨rfl,rfl⟩
     rw[o1,o2]
     obtain⟨h6,h7,h8,h9⟩:=h2
     clear o1 o2
     go_wp2
     go_ret2
     exact⟨rfl,rfl⟩
 ·obtain⟨o1,o2⟩:=aZ.aw1 h2
  rw[show aZ.kV e a t=0 by unfold aZ.kV;rw[if_neg h2],o2]
  go_enter func284,ntmps284
  go_wp2_with fail
  refine(iJ e a w).mono ?_
  rintro E w2 ⟨rfl,rfl⟩
  rw[o1,o2]
  go_wp2
  go_ret2
  exact⟨rfl,rfl⟩
theorem atC:Array.replicate 33 false=aY 33 0:=by kernel_rfl
theorem apQ:(aB 1 f108).size=33:=by kernel_rfl
theorem aqE:bG (aB 1 f108) 33 0 0 1=true:=by kernel_rfl
theorem aqn:bG (aB 1 f108) 33 1 1 3=true:=by kernel_rfl
theorem an1:bG (aB 1 f108) 33 3 2 7=true:=by kernel_rfl
theorem an9:bG (aB 1 f108) 33 7 3 15=true:=by kernel_rfl
theorem amH:bG (aB 1 f108) 33 15 4 31=true:=by kernel_rfl
theorem amV:bG (aB 1 f108) 33 31 5 63=true:=by kernel_rfl
theorem ala:bG (aB 1 f108) 33 63 6 127=true:=by kernel_rfl
theorem ai1:bG (aB 1 f108) 33 127 7 255=true:=by kernel_rfl
theorem aj4:bG (aB 1 f108) 33 255 8 511=true:=by kernel_rfl
theorem akD:bG (aB 1 f108) 33 511 9 1023=true:=by kernel_rfl
theorem afa:bG (aB 1 f108) 33 1023 10 2047=true:=by kernel_rfl
theorem agH:bG (aB 1 f108) 33 2047 11 4095=true:=by kernel_rfl
theorem afO:bG (aB 1 f108) 33 4095 12 8191=true:=by kernel_rfl
theorem ag4:bG (aB 1 f108) 33 8191 13 16383=true:=by kernel_rfl
theorem ad7:bG (aB 1 f108) 33 16383 14 32767=true:=by kernel_rfl
theorem ad8:bG (aB 1 f108) 33 32767 15 65535=true:=by kernel_rfl
theorem ad5:bG (aB 1 f108) 33 65535 18 327679=true:=by kernel_rfl
theorem acr:bG (aB 1 f108) 33 327679 19 851967=true:=by kernel_rfl
theorem ace:bG (aB 1 f108) 33 851967 20 1900543=true:=by kernel_rfl
theorem abq:bG (aB 1 f108) 33 1900543 21 3997695=true:=by kernel_rfl
theorem abh:bG (aB 1 f108) 33 3997695 22 8191999=true:=by kernel_rfl
theorem agr:eQ (aB 1 f108) 33 8191999 [16] [8257535]=true:=by kernel_rfl
theorem aa5:bG (aB 1 f108) 33 8257535 17 8388607=true:=by kernel_rfl
theorem agY:eQ (aB 1 f108) 33 8388607 [23] [16777215]=true:=by kernel_rfl
theorem aef:eQ (aB 1 f108) 33 16777215 [24] [33554431]=true:=by kernel_rfl
theorem zY:bG (aB 1 f108) 33 33554431 25 67108863=true:=by kernel_rfl
theorem aam:bG (aB 1 f108) 33 67108863 26 134217727=true:=by kernel_rfl
theorem zA:bG (aB 1 f108) 33 134217727 27 268435455=true:=by kernel_rfl
theorem zx:bG (aB 1 f108) 33 268435455 28 536870911=true:=by kernel_rfl
theorem zB:bG (aB 1 f108) 33 536870911 29 1073741823=true:=by kernel_rfl
theorem xI:bG (aB 1 f108) 33 1073741823 30 2147483647=true:=by kernel_rfl
theorem aaX:eQ (aB 1 f108) 33 2147483647 [31] [4294967295]=true:=by kernel_rfl
theorem xO:bG (aB 1 f108) 33 4294967295 32 8589934591=true:=by kernel_rfl
theorem auI:Region.ready .any (aB 1 f108) (aY 33 8589934591)=[]:=by kernel_rfl
end Go.Proofs.YtlmkaljjocflmaaGreatDoor
namespace Go.Proofs.YtlmkaljjocflmaaGreatDoor
open Go.RowKit Go.ChangeShapes Go.WideShapes Go.Deep
theorem awq {z:Int}(h:(Lit.int .i64 z).wf=true):I64 z:=by
 have:=range_i64 (zs:=[z]) (by simpa using h) 0
 simp at this
 exact⟨by omega,by omega⟩
section
variable {H:Type} {enc:TypeId×Value→H} {P:Program} {w:World} {base:Nat} {spare:Nat→Bool} {held:Bool}
theorem amL {t e:TypeId}{fuel:Nat}{v:Value}{x:DataW H×List MemPlace}(ht:P.underlying t=some (.slice e))(he:P.underlying e=some (.int .u8))(h1:P.cellsOf e=1)
  (h:DataW.trod enc P w base spare held fuel t [v]=some x):∃zs:List Int,Is .u8 w v zs:=by
 rcases open_ints ht he h1 h with⟨hcs,hx⟩|⟨a,l,c,zs,hcs,hb,hl,hm,hz,hx,hcell,hwz⟩
 ·simp at hcs
  subst hcs
  exact⟨[],Is.nil _ _⟩
 ·simp at hcs
  subst hcs
  have hzl:l≤zs.length:=by rw[hz];split<;>omega
  have hlen:(zs.take l).length=l:=by rw[List.length_take];omega
  refine⟨zs.take l,fun z hz=>hwz z (List.mem_of_mem_take hz),.inr ⟨a,c,by rw[hlen],by omega,hm,fun j hj=>?_⟩⟩
  rw[hlen]at hj
  rw[hcell j (by omega)]
  simp[List.getD,hj]
theorem mi {α:Type}{f:α→List Value}{k:Nat}(hk:∀a,(f a).length=k)(h0:0<k):∀(l:List α) (j:Nat) (u:Value),(gcells f l)[j]? =some u→∃i a m,l[i]? =some a∧j=i*k+m∧(f a)[m]? =some u
 |[],j,u,h=>by simp[gcells]at h
 |a::r,j,u,h=>by
  rw[gcells]at h
  by_cases hj:j<k
  ·rw[List.getElem?_append_left (by rw[hk];exact hj)]at h
   exact⟨0,a,j,rfl,by omega,h⟩
  ·rw[List.getElem?_append_right (by rw[hk];omega),hk]at h
   obtain⟨i,b,m,h1,h2,h3⟩:=mi hk h0 r (j-k) u h
   exact⟨i+1,b,m,by simpa using h1,by rw[Nat.add_mul];omega,h3⟩
end
end Go.Proofs.YtlmkaljjocflmaaGreatDoor
