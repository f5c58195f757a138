/- Texts of one layer, one behind the other. -/
import Derived.Test.YtpifdeoepppadaaGreatDoorG6
import Derived.Test.YtpifdeoepppadaaGreatDoorG1
import Derived.Laws.Bits64b
import Derived.Test.YtpifdeoepppadaaGreatDoorProg
import Derived.Deep.QuietTactic
import Derived.BigQuiet
import Derived.Deep.RegionWith
import Derived.Lib.SliceRun
import Derived.Lib.AppendZeros
set_option maxRecDepth 100000
set_option maxHeartbeats 8000000
namespace Go.Proofs.YtpifdeoepppadaaGreatDoor
open Go.RowKit
set_option linter.unusedVariables false
theorem abE (a b:Nat)(ha:a<256)(hb:b<256):bits .and .u8 (a:Int) (b:Int)=((a&&&b:Nat):Int):=by
 have hx:a&&&b<2 ^ 8:=Nat.and_lt_two_pow _ (by omega)
 have h1:(BitVec.ofInt 8 (a:Int)).toNat=a:=by
  rw[BitVec.ofInt_natCast,BitVec.toNat_ofNat];exact Nat.mod_eq_of_lt (by omega)
 have h2:(BitVec.ofInt 8 (b:Int)).toNat=b:=by
  rw[BitVec.ofInt_natCast,BitVec.toNat_ofNat];exact Nat.mod_eq_of_lt (by omega)
 show IntKind.u8.wrap ((BitVec.ofInt 8 (a:Int)&&&BitVec.ofInt 8 (b:Int)).toNat:Int)=_
 rw[BitVec.toNat_and,h1,h2]
 simp[IntKind.wrap,IntKind.signed,IntKind.bits]
 omega
theorem adg (a b:Nat)(ha:a<256)(hb:b<256):bits .or .u8 (a:Int) (b:Int)=((a|||b:Nat):Int):=by
 have hx:a|||b<2 ^ 8:=Nat.or_lt_two_pow (by omega) (by omega)
 have h1:(BitVec.ofInt 8 (a:Int)).toNat=a:=by
  rw[BitVec.ofInt_natCast,BitVec.toNat_ofNat];exact Nat.mod_eq_of_lt (by omega)
 have h2:(BitVec.ofInt 8 (b:Int)).toNat=b:=by
  rw[BitVec.ofInt_natCast,BitVec.toNat_ofNat];exact Nat.mod_eq_of_lt (by omega)
 show IntKind.u8.wrap ((BitVec.ofInt 8 (a:Int)|||BitVec.ofInt 8 (b:Int)).toNat:Int)=_
 rw[BitVec.toNat_or,h1,h2]
 simp[IntKind.wrap,IntKind.signed,IntKind.bits]
 omega
theorem aci (a:Nat):a&&&127=a % 128:=Nat.and_two_pow_sub_one_eq_mod a 7
theorem aeN (a:Nat)(h:a<128):a|||128=a+128:=by
 have:=Nat.two_pow_add_eq_or_of_lt (i:=7) h 1
 rw[Nat.or_comm]
 simp at this
 omega
theorem alB (y:Int)(h0:0≤y)(h1:y<18446744073709551616):bits .and .u64 y 127=y % 128:=by
 have h:=bits_and_u64_nat y.toNat 127 (by omega) (by omega)
 rw[aci,Int.toNat_of_nonneg h0]at h
 refine h.trans ?_
 omega
theorem al4 (y:Int)(h0:0≤y)(h1:y<256):bits .and .u8 y 127=y % 128:=by
 have h:=abE y.toNat 127 (by omega) (by omega)
 rw[aci,Int.toNat_of_nonneg h0]at h
 refine h.trans ?_
 omega
theorem arK (y:Int)(h0:0≤y)(h1:y<128):bits .or .u8 y 128=y+128:=by
 have h:=adg y.toNat 128 (by omega) (by omega)
 rw[aeN _ (by omega),Int.toNat_of_nonneg h0]at h
 refine h.trans ?_
 omega
theorem aq6 (n:Nat):(2:Nat) ^ (7*n)=128 ^ n:=by rw[Nat.pow_mul]
theorem aim (acc n:Nat)(c:Int)(h0:0≤c)(ha:acc<128 ^ n)(hf:acc+c.toNat*128 ^ n<18446744073709551616):bits .or .u64 (acc:Int) (IntKind.u64.wrap (c*2 ^ (7*n)))=((acc+c.toNat*128 ^ n:Nat):Int):=by
 have e:c*2 ^ (7*n)=((c.toNat*128 ^ n:Nat):Int):=by
  rw[←aq6]
  push_cast
  rw[Int.toNat_of_nonneg h0]
 have e2:IntKind.u64.wrap (c*2 ^ (7*n))=((c.toNat*128 ^ n:Nat):Int):=by
  rw[e,IntKind.wrap_u64]
  omega
 rw[e2,bits_or_u64_nat _ _ (by omega) (by omega),Nat.or_comm]
 have h:=Nat.two_pow_add_eq_or_of_lt (i:=7*n) (b:=acc) (by rw[aq6];exact ha) c.toNat
 rw[aq6]at h
 rw[Nat.mul_comm c.toNat,←h,Nat.add_comm]
theorem adS (z:Int)(h0:0≤z)(h1:z<18446744073709551616):IntKind.u64.wrap z=z:=by
 rw[IntKind.wrap_u64]
 omega
theorem wf_u8 {z:Int}(h0:0≤z)(h1:z<256):(Lit.int .u8 z).wf=true:=by
 simp[Lit.wf,IntKind.min,IntKind.max,IntKind.signed,IntKind.bits];omega
theorem wf_i64 {z:Int}(h0:-9223372036854775808≤z)(h1:z<9223372036854775808):(Lit.int .i64 z).wf=true:=by
 simp[Lit.wf,IntKind.min,IntKind.max,IntKind.signed,IntKind.bits];omega
theorem Tryz.info5:(Tryz.prog.info? 5).map (fun i=>(i.zero,i.size,i.bytes))=some (some (.int .u8 0),1,1):=by kernel_rfl
structure Bw where
 v:Value
 l:List Int
def bwc (a:Bw):List Value:=[a.v]
theorem aiN (a:Bw):(bwc a).length=1:=rfl
def abm (w:World) (v:Value) (r:List Bw):Prop:=iJ bwc w v r∧∀a∈r,Is .u8 w a.v a.l
theorem abm.below {w w':World}{v:Value}{r:List Bw}(h:abm w v r)(hb:Below w.heap.size w w'):abm w' v r:=⟨h.1.below hb,fun a ha=>(h.2 a ha).below hb⟩
theorem abm.full {w:World}{v:Value}{r:List Bw}(h:abm w v r)(hne:0<r.length):
  ∃b off cap,v=.slice (some ⟨b,off,none⟩) r.length cap∧r.length≤cap∧cap≤maxLen∧b<w.heap.size∧∀i a,r[i]? =some a→w.cell? ⟨b,off+i,none⟩=some a.v:=by
 obtain⟨b,off,cap,h1,h2,h3,h4,h5⟩:=h.1.full aiN (by decide) hne
 refine⟨b,off,cap,h1,h2,h3,h4,fun i a ha=>?_⟩
 have:=h5 i a ha 0 a.v rfl
 simpa using this
structure OwnB (base:Nat) (w:World) (v:Value) (r:List Bw):Prop where
 row:gG bwc 1 71 base w v r
 own:∀a∈r,Own .u8 5 base w a.v a.l
 apart:r.Pairwise (fun a b=>∀g,a.v.ownBlock=some g→b.v.ownBlock≠some g)
section
variable {P:Program} {w:World} {v:Value}
theorem Is.jW {k:IntKind}{zs:List Int}(h:Is k w v zs){t:TypeId}(ht:P.underlying t=some (.slice (P.elem t)))(hs:∀wx,(sizeOf (P.elem t)).run P wx=.ok 1 wx)(p:Nat)(hp:p≤zs.length):
  ∃vs,(∀wx,(Instr.slice t v none (some (.int .i64 p)) none).run P wx=.ok vs wx)∧Is k w vs (zs.take p):=by
 obtain⟨vs,h1,h2⟩:=h.xg ht hs 0 p (by omega) hp
 rw[List.drop_zero,Nat.sub_zero]at h2
 refine⟨vs,fun wx=>?_,h2⟩
 obtain⟨ao,cap,rfl,hcap,_⟩:=h.shape
 rw[←h1 wx,run_slice_lh wx t ao zs.length cap ht .i64 .i64 _ _ (by omega) (by omega) (by omega),run_slice_h wx t ao zs.length cap ht .i64 _ (by omega) (by omega)]
 simp
end
theorem Tryz.lG:Tryz.prog.underlying 71=some (.slice (Tryz.prog.elem 71)):=by kernel_rfl
theorem Tryz.nC (wx:World):(sizeOf (Tryz.prog.elem 71)).run Tryz.prog wx=.ok 1 wx:=by kernel_rfl
theorem amh {y:Int}{n m:Nat}(h0:0≤y)(hs:Vm.sz y.toNat+n=m+1)(h:(y / 128==0)=true):(n:Int)=m:=by
 have h:=beq_iff_eq.1 h
 have:=Vm.iO (x:=y.toNat) (by omega)
 omega
theorem anh {y:Int}{n m:Nat}(h0:0≤y)(hs:Vm.sz y.toNat+n=m+1)(hm:m≤10)(h:(y / 128==0)=false):
  Vm.sz (y / 128).toNat+(n+1)=m+1∧n+1≤10∧(y / 128).toNat<y.toNat:=by
 have h:=beq_eq_false_iff_ne.1 h
 have:=Vm.afK (x:=y.toNat) (by omega)
 have e:(y / 128).toNat=y.toNat / 128:=by omega
 have:=Vm.sJ (y / 128).toNat
 rw[e]at*
 omega
theorem afQ (x:Int)(w:World)(h0:0≤x)(h1:x<18446744073709551616):
  Calls Tryz.prog 207 #[.int .u64 x] w fun e w'=>e=.returned (.int .i64 (Vm.sz x.toNat))∧w=w':=by
 have hm:=Vm.gK (x:=x.toNat) (by omega)
 go_enter Tryz.func207,Tryz.ntmps207
 go_wp2
 go_loop [0,3] (fun xx nn=>∃(y:Int) (n:Nat),0≤y∧y<18446744073709551616∧1≤n∧n≤10∧xx=.int .u64 y∧nn=.int .i64 n∧Vm.sz y.toNat+n=Vm.sz x.toNat+1) (fun xx _=>(intOf xx).toNat)
 case atStart=>exact⟨x,1,h0,h1,by omega,by omega,rfl,rfl,rfl⟩
 case round=>
  obtain⟨y,n,hy0,hy1,hn0,hn1,rfl,rfl,hs⟩:=hrel
  have HS:Hid (Vm.sz y.toNat+n=Vm.sz x.toNat+1):=hs
  clear hs
  go_wp2
  ·have hb:(y / 128==0)=true:=by assumption
   go_ret
   exact⟨iT (amh hy0 HS.out hb),rfl⟩
  ·have hb:(y / 128==0)=false:=by assumption
   have R:=anh hy0 HS.out hm hb
   go_round
   case rel=>exact⟨y / 128,n+1,by omega,by omega,by omega,R.2.1,rfl,by go_num,R.1⟩
   case measure=>simp[intOf];omega
theorem iG (vb:Value)(bs:List Int)(x:Int)(w:World)(hb:Is .u8 w vb bs)(hlb:bs.length≤140737488351232)(h0:0≤x)(h1:x<18446744073709551616):
  Calls Tryz.prog 185 #[vb,.int .u64 x] w fun e w'=>∃v,e=.returned v∧Own .u8 5 w.heap.size w' v (bs++Vm.enc x.toNat)∧Below w.heap.size w w':=by
 have hm:=Vm.gK (x:=x.toNat) (by omega)
 obtain⟨ao,cap,hv⟩:∃ao cap,vb=.slice ao bs.length cap:=by
  rcases hb.2 with⟨h,e⟩|⟨ad,cap,hv,_⟩
  ·subst e;exact⟨none,0,h⟩
  ·exact⟨some ad,cap,hv⟩
 subst hv
 obtain⟨i0,hi,hz0,hz1,hz2⟩:=info_parts Tryz.info5
 go_enter Tryz.func185,Tryz.ntmps185
 go_wp2_with (first|(go_at_call 207;refine(afQ x _ h0 h1).mono ?_;rintro e w' ⟨rfl,rfl⟩)|(at_make;refine wpList_make_own _ rfl _ _ 71 rfl w.heap.size 5 i0 (.int .u8 0) 1 Tryz.underlying71 hi hz0 hz1 _ _ _ (bs.length+Vm.sz x.toNat) rfl rfl (by omega) ?b2 ?b3 (Nat.le_refl _) ?_))
 case b2=>rw[hz2];omega
 case b3=>unfold maxLen;omega
 intro w0 hown0 amo
 have dx:Below w.heap.size w w0:=(Below.refl _ _).grown amo (Nat.le_refl _) (by simp)
 have agN:Own .u8 5 w.heap.size w0 (.slice (some ⟨w.heap.size,0,none⟩) 0 (bs.length+Vm.sz x.toNat)) []:=⟨by simp,hown0⟩
 have is0:=hb.below dx
 have tL:=dx.size
 clear hown0 amo
 go_wp2_with (at_builtin;refine dA rfl (.tmp 12) (.tmp 13) 71 rfl .u8 5 w.heap.size 1 Tryz.underlying71 Tryz.info5 (by decide) _ [] rfl agN _ bs rfl is0 (by simp;omega) tL ?_)
 intro v1 w1 bJ ax _
 have aF:=dx.trans ax
 clear agN is0 dx ax tL
 go_wp2
 go_loopw [1,5] (fun xx vv wr=>∃(y:Int) (zs:List Int),0≤y∧y<18446744073709551616∧xx=.int .u64 y∧zs.length≤140737488351242∧Own .u8 5 w.heap.size wr vv zs∧zs++Vm.enc y.toNat=bs++Vm.enc x.toNat∧Below w.heap.size w wr) (fun xx _ _=>(intOf xx).toNat)
 case atStart=>exact⟨x,bs,h0,h1,rfl,by omega,bJ,rfl,aF⟩
 case round=>
  obtain⟨y,zs,hy0,hy1,rfl,hl,own,heq,bN⟩:=hrel
  have HE:=hide heq
  clear heq bJ aF
  have ru:=bN.size
  by_cases hy:y≤127
  ·have e1:y % 256=y:=by omega
   have W:=wf_u8 (z:=y) hy0 (by omega)
   go_wp2_with (at_builtin;refine dA rfl (.tmp 17) (.tmp 20) 71 rfl .u8 5 w.heap.size 1 Tryz.underlying71 Tryz.info5 (by decide) _ zs rfl (own.below ((Below.refl _ _).alloc (Nat.le_refl _) _)) _ [y] rfl (Is.one .u8 _ _ 5 W) (by simp;omega) (by simp;omega) ?_)
   intro v2 w2 bq aB _
   go_wp2
   go_ret
   refine⟨_,rfl,?_,(bN.alloc ru _).trans aB⟩
   rw[←HE.out,Vm.mK (x:=y.toNat) (by omega),Int.toNat_of_nonneg hy0]
   exact bq
  ·have e1:=alB y hy0 hy1
   have e2:y % 128 % 256=y % 128:=by omega
   have e3:=arK (y % 128) (by omega) (by omega)
   have W:=wf_u8 (z:=y % 128+128) (by omega) (by omega)
   go_wp2_with (at_builtin;refine dA rfl (.tmp 22) (.tmp 27) 71 rfl .u8 5 w.heap.size 1 Tryz.underlying71 Tryz.info5 (by decide) _ zs rfl (own.below ((Below.refl _ _).alloc (Nat.le_refl _) _)) _ [y % 128+128] rfl (Is.one .u8 _ _ 5 W) (by simp;omega) (by simp;omega) ?_)
   intro v2 w2 bq aB _
   have HE2:zs++[y % 128+128]++Vm.enc (y / 128).toNat=bs++Vm.enc x.toNat:=by
    rw[←HE.out,Vm.qP (x:=y.toNat) (by omega)]
    have:(y / 128).toNat=y.toNat / 128:=by omega
    have:((y.toNat % 128+128:Nat):Int)=y % 128+128:=by omega
    simp_all
   have HL:zs.length+1≤140737488351242:=by
    have:=congrArg List.length HE2
    have:=Vm.sJ (y / 128).toNat
    simp at*
    unfold Vm.sz at*
    omega
   have HE3:=hide HE2
   have b3:=(bN.alloc ru _).trans aB
   clear HE2 own e1 e2 e3
   go_wp2
   go_roundw
   case rel=>exact⟨y / 128,zs++[y % 128+128],by omega,by omega,rfl,by simp;omega,bq,HE3.out,b3⟩
   case measure=>simp[intOf];omega
theorem yJ {x n e x' n' e':Int}(h:x=x'∧n=n'∧e=e'):Ending.returned (.tuple #[.int .u64 x',.int .i64 n',.int .i64 e'])=.returned (.tuple #[.int .u64 x,.int .i64 n,.int .i64 e]):=by
 obtain⟨rfl,rfl,rfl⟩:=h;rfl
theorem aaS {bs:List Int}{x n e:Int}(hR:Vm.Res bs x n e){u k:Nat}(hu:u<18446744073709551616)(hp:Vm.enc u<+:bs)(hs:Vm.sz u=k+1):x=(u:Int)∧n=(k:Int)+1∧e=0:=by
 have:=Vm.nQ hR hu hp
 omega
theorem wZ (vb:Value)(bs:List Int)(x n e:Int)(w:World)(hb:Is .u8 w vb bs)(hl:bs.length≤150000000000000)(hR:Vm.Res bs x n e):
  Calls Tryz.prog 224 #[vb] w fun E w'=>E=.returned (.tuple #[.int .u64 x,.int .i64 n,.int .i64 e])∧w=w':=by
 by_cases hz:0<bs.length
 ·have hbyte:=fun i=>hb.byte i
  have HBY:=hide hbyte
  obtain⟨b1,o1,c1,rfl,_,_,hB1,hc1⟩:=hb.full hz
  have HC:=hide hc1
  clear hc1 hbyte hb
  go_enter Tryz.func224,Tryz.ntmps224
  go_wp2
  go_loop [2,3] (fun xx nn=>∃(acc:Nat) (k:Nat),k≤9∧k≤bs.length∧xx=.int .u64 acc∧nn=.int .i64 k∧Vm.Inv bs k acc) (fun _ nn=>10-(intOf nn).toNat)
  case atStart=>exact⟨0,0,by omega,by omega,rfl,rfl,Vm.anC bs⟩
  case round=>
   obtain⟨acc,k,hk,hk2,rfl,rfl,hinv⟩:=hrel
   have HI:=hide hinv
   clear hinv
   by_cases hlt:k<bs.length
   ·have hq:((k:Int)==(bs.length:Int))=false:=by simp;omega
    have g1:=HC.out k hlt
    have hlt':(k:Int)<bs.length:=by omega
    have hc0:=HBY.out k
    generalize hcc:bs.getD k 0=c at*
    have uC:=hide hcc
    have h70:=al4 c hc0.1 hc0.2
    have h71:=adS (c % 128) (by omega) (by omega)
    clear hcc
    by_cases h9:k=9
    ·have h9':((k:Int)==9)=true:=by simp[h9]
     have H9:=hide h9
     have HI9:Hid (Vm.Inv bs 9 acc):=by have:=HI.out;rw[h9]at this;exact this
     have HC9:Hid (bs.getD 9 0=c):=by have:=uC.out;rw[h9]at this;exact this
     clear h9
     by_cases hc1:1<c
     ·go_wp2
      go_ret3
      exact⟨yJ (Vm.uF hR (Vm.apX HI9.out (by rw[←H9.out];exact hlt) HC9.out hc1 hc0.2)),rfl⟩
     ·have hfit:acc+(c % 128).toNat*128 ^ k<18446744073709551616:=by rw[H9.out];exact Vm.anq HI9.out hc0.1 (by omega)
      have e1:=aim acc k (c % 128) (by omega) HI.out.1 hfit
      generalize hna:acc+(c % 128).toNat*128 ^ k=na at*
      have HNA:=hide hna
      clear hna
      have hk1:1≤k:=by have:=H9.out;omega
      have azi:1<(k:Int)+1:=by omega
      by_cases hcz:c=0
      ·have aoV:(c==0)=true:=by simp[hcz]
       have HZ:=hide hcz
       clear hcz
       go_wp2
       go_ret3
       exact⟨yJ (Vm.uF hR (Vm.inv_zero HI.out hlt (uC.out.trans HZ.out) hk1)),rfl⟩
      ·have aoV:(c==0)=false:=by simp[hcz]
       have G:=hide (Vm.adW HI.out hlt uC.out hc0.1 (by omega) (.inl (by omega)))
       go_wp2
       go_ret3
       have G:=G.out
       rw[HNA.out]at G
       exact⟨yJ (aaS hR hfit G.1 G.2),rfl⟩
    ·have h9':((k:Int)==9)=false:=by simp;omega
     have hfit:=Vm.aqg HI.out (c:=c) (by omega) hc0.1
     have e1:=aim acc k (c % 128) (by omega) HI.out.1 hfit
     generalize hna:acc+(c % 128).toNat*128 ^ k=na at*
     have HNA:=hide hna
     clear hna
     by_cases h128:c≤127
     ·by_cases hk1:1≤k
      ·have azi:1<(k:Int)+1:=by omega
       by_cases hcz:c=0
       ·have aoV:(c==0)=true:=by simp[hcz]
        have HZ:=hide hcz
        clear hcz
        go_wp2
        go_ret3
        exact⟨yJ (Vm.uF hR (Vm.inv_zero HI.out hlt (uC.out.trans HZ.out) hk1)),rfl⟩
       ·have aoV:(c==0)=false:=by simp[hcz]
        have G:=hide (Vm.adW HI.out hlt uC.out hc0.1 (by omega) (.inl (by omega)))
        go_wp2
        go_ret3
        have G:=G.out
        rw[HNA.out]at G
        exact⟨yJ (aaS hR hfit G.1 G.2),rfl⟩
      ·have azi:¬1<(k:Int)+1:=by omega
       have G:=hide (Vm.adW HI.out hlt uC.out hc0.1 (by omega) (.inr (by omega)))
       go_wp2
       go_ret3
       have G:=G.out
       rw[HNA.out]at G
       exact⟨yJ (aaS hR hfit G.1 G.2),rfl⟩
     ·go_wp2
      go_round
      case rel=>exact⟨na,k+1,by omega,by omega,rfl,by go_num,by have:=Vm.aq3 HI.out hlt uC.out (by omega) hc0.2;rw[HNA.out]at this;exact this⟩
      case measure=>simp[intOf];omega
   ·have hq:((k:Int)==(bs.length:Int))=true:=by simp;omega
    go_wp2
    go_ret3
    exact⟨yJ (Vm.uF hR (Vm.amY HI.out (by omega))),rfl⟩
 ·have hx:bs=[]:=List.eq_nil_of_length_eq_zero (by omega)
  subst hx
  obtain⟨a1,c1,rfl⟩:=hb.bare
  clear hb hl hz
  go_enter Tryz.func224,Tryz.ntmps224
  go_wp2
  refine wp_loop_rounds 1 ?_
  rw[rounds_succ]
  go_wp2
  go_ret3
  exact⟨yJ (Vm.uF hR (fun u _=>Vm.pre_nil u)),rfl⟩
def xA (bs:List Int) (most u i g:Int):Prop:=
 (Vm.Res bs u i 0∧0≤most∧u≤most∧g=0)∨(u=0∧i=0∧g=5∧∃x n e,Vm.Res bs x n e∧(e=5∨(e=0∧(most<0∨(0≤most∧most<x)))))
theorem ig (bs:List Int)(most:Int):∃u i g,xA bs most u i g:=by
 obtain⟨x,n,e,hR⟩:=Vm.awE bs
 have hb:=Vm.kV hR
 by_cases h:e=0∧0≤most∧x≤most
 ·obtain⟨rfl,h1,h2⟩:=h
  exact⟨x,n,0,.inl ⟨hR,h1,h2,rfl⟩⟩
 ·exact⟨0,0,5,.inr ⟨rfl,rfl,rfl,x,n,e,hR,by omega⟩⟩
theorem dH (vb:Value)(bs:List Int)(most u i g:Int)(w:World)(hb:Is .u8 w vb bs)(hl:bs.length≤150000000000000)(hm:most<9223372036854775808)(hm':-9223372036854775808≤most)(hS:xA bs most u i g):
  Calls Tryz.prog 210 #[vb,.int .i64 most] w fun E w'=>E=.returned (.tuple #[.int .i64 u,.int .i64 i,.int .i64 g])∧w=w':=by
 rcases hS with⟨hR,h0,h1,hg⟩|⟨hu,hi,hg,x,n,e,hR,hcase⟩
 ·have hbd:=Vm.kV hR
  have hq:((0:Int) !=0)=false:=by simp
  subst hg
  go_enter Tryz.func210,Tryz.ntmps210
  go_wp2_with (go_at_call 224;refine(wZ _ _ _ _ _ _ hb hl hR).mono ?_;rintro E w1 ⟨rfl,rfl⟩)
  go_ret3
  exact⟨rfl,rfl⟩
 ·have hbd:=Vm.kV hR
  subst hu hi hg
  rcases hcase with he|⟨he,h|⟨h,h'⟩⟩
  ·subst he
   go_enter Tryz.func210,Tryz.ntmps210
   go_wp2_with (go_at_call 224;refine(wZ _ _ _ _ _ _ hb hl hR).mono ?_;rintro E w1 ⟨rfl,rfl⟩)
   go_ret3
   exact⟨rfl,rfl⟩
  ·subst he
   go_enter Tryz.func210,Tryz.ntmps210
   go_wp2_with (go_at_call 224;refine(wZ _ _ _ _ _ _ hb hl hR).mono ?_;rintro E w1 ⟨rfl,rfl⟩)
   go_ret3
   exact⟨rfl,rfl⟩
  ·subst he
   go_enter Tryz.func210,Tryz.ntmps210
   go_wp2_with (go_at_call 224;refine(wZ _ _ _ _ _ _ hb hl hR).mono ?_;rintro E w1 ⟨rfl,rfl⟩)
   go_ret3
   exact⟨rfl,rfl⟩
theorem Tryz.asj (w:World)(a:Option Addr)(n c:Nat):(binOp .eql 71 (.slice a n c) (.slice none 0 0)).run Tryz.prog w=.ok (.bool a.isNone) w:=Lib.run_eql_slice_nil w 71 5 a n c 0 0 Tryz.underlying71
theorem vN (v:Value)(bs:List Int)(w:World)(h:Is .u8 w v bs)(hl:bs.length≤140737488355328):
  Calls Tryz.prog 105 #[v] w fun E w'=>∃v',E=.returned v'∧Own .u8 5 w.heap.size w' v' bs∧Below w.heap.size w w':=by
 rcases h.2 with⟨hv,hz⟩|⟨ad,cap,hv,h1,h2,hc⟩
 ·subst hz hv
  have hq:=Tryz.asj w none 0 0
  clear h
  go_enter Tryz.func105,Tryz.ntmps105
  go_wp2
  go_ret
  exact⟨_,rfl,Own.nil _ _ _ _,Below.refl _ _⟩
 ·obtain⟨w1,hw1,bH,ax,bJ⟩:=lK .u8 5 w #[] 0 [] rfl rfl (by simp) (by simp)
  have hq:=Tryz.asj w (some ad) bs.length cap
  simp only[Option.isNone_some]at hq
  have h1':=h.below ax
  subst hv
  have X:Hid (∀ty,∃v' w',(Builtin.append_ #[71,71] ty #[.slice (some ⟨w.heap.size,0,none⟩) 0 0,.slice (some ad) bs.length cap]).run Tryz.prog w1=.ok v' w'∧(Own .u8 5 w.heap.size w' v' bs∧Below w.heap.size w w')):=hide fun ty=>by
   obtain⟨v',w',hr,ho,hg,_⟩:=lJ (P:=Tryz.prog) 71 ty .u8 5 w.heap.size 1 Tryz.underlying71 Tryz.info5 (by decide) _ [] bJ _ bs h1' (by simp;omega) (by omega)
   exact⟨v',w',hr,by simpa using ho,ax.grown hg (by omega) fun k hk=>by simp[Value.ownBlock]at hk;omega⟩
  clear bJ h1' h hc
  go_enter Tryz.func105,Tryz.ntmps105
  go_wp2_with (at_builtin;refine jN rfl (.tmp 5) (.tmp 6) 71 rfl _ _ rfl rfl X.out ?_)
  intro v2 w2 bq aB
  go_wp2
  go_ret
  exact⟨_,rfl,bq,aB⟩
theorem Tryz.aA9:Tryz.prog.underlying 3=some (.int .i64):=by kernel_rfl
theorem aro (n:Nat):(Builtin.zeroCells (Value.int .u8 0).cells n).toList=(List.replicate n (0:Int)).map (Value.int .u8):=by
 apply List.ext_getElem?
 intro i
 simp[Builtin.zeroCells,Value.cells,List.getElem?_replicate]
 by_cases h:i<n<;>simp[h,Nat.mod_one]
theorem anQ (w:World)(n:Nat)(h0:0<n)(h1:n≤150000000000000):Hid (∀ty,∃v' w',(Builtin.append_ #[71,3] ty #[.slice none 0 0,.int .i64 n]).run Tryz.prog w=.ok v' w'∧Own .u8 5 w.heap.size w' v' (List.replicate n 0)∧Below w.heap.size w w'):=by
 obtain⟨i,hi,hz,hsize,hb⟩:=info_parts Tryz.info5
 refine hide fun ty=>⟨_,_,Lib.run_append_nil_zeros w 71 3 ty 5 i (.int .u8 0) .i64 .i64 Tryz.underlying71 Tryz.aA9 hi hz n h0 (by omega) (by omega) (by rw[hb];omega),?_,?_⟩
 ·refine⟨fun z hz=>?_,?_⟩
  ·rw[List.eq_of_mem_replicate hz];rfl
  ·rw[List.length_replicate]
   refine adv w (Value.int .u8 0).cells rfl _ n _ (by simp[Value.cells]) (grownCap_ge w n 0 _) (grownCap_le_maxLen w n 0 _ (by unfold maxLen;omega)) (Nat.le_refl _) _ ?_
   rw[←aro n]
 ·exact(Below.refl _ _).grown (yH w _ none) (Nat.le_refl _) (fun k hk=>by cases hk)
theorem aad {P:Program}{w:World}{ops:Array Oper}{rest:List Oper}{o:Oper}{a:Act}{Q:Exit→Act→World→Prop}(hgd:o.guard=none)(s x:Operand)(t tn:TypeId)(ho:o.op=.call {callee:=.builtin .append,args:=#[s,x],argTypes:=#[t,tn]})
  (v vx:Value) (hs:a.eval s=v) (hx:a.eval x=vx) {R:Value→World→Prop} (hrun:∀ty,∃v' w',(Builtin.append_ #[t,tn] ty #[v,vx]).run P w=.ok v' w'∧R v' w')
  (h:∀v' w',R v' w'→wpList P ops Q rest (a.put o.dst v') w'):wpList P ops Q (o::rest) a w:=by
 obtain⟨v',w',hr,hR⟩:=hrun o.type
 exact Lib.wpList_append_run w hgd s x t tn ho v vx hs hx v' w' hr (h v' w' hR)
theorem am2 (n:Nat)(w:World)(h1:n≤150000000000000):
  Calls Tryz.prog 208 #[.slice none 0 0,.int .i64 n] w fun E w'=>∃v',E=.returned v'∧Own .u8 5 w.heap.size w' v' []∧Below w.heap.size w w':=by
 have hn0:¬(n:Int)<0:=by omega
 have e1:IntKind.i64.wrap ((n:Int)-0)=n:=by rw[aN _ (by omega) (by omega)];omega
 have hsl:=(Own.nil .u8 5 w.heap.size w).is.jW Tryz.lG Tryz.nC 0 (by simp)
 by_cases h0:0<n
 ·have X:=anQ w n h0 h1
  have hn1:(0:Int)<n:=by omega
  go_enter Tryz.func208,Tryz.ntmps208
  go_wp2_with (at_builtin;refine aad rfl (.tmp 20) (.tmp 21) 71 3 rfl _ _ rfl rfl X.out ?_)
  intro v2 w2 bq aB
  obtain⟨vs,hvs,owns,_⟩:=bq.jW Tryz.lG Tryz.nC 0 (by omega)
  have arD:=hvs w2
  simp only[Int.natCast_zero]at arD
  clear X hvs hsl bq
  go_wp2
  go_ret
  exact⟨_,rfl,by simpa using owns,aB⟩
 ·obtain rfl:n=0:=by omega
  clear e1
  go_enter Tryz.func208,Tryz.ntmps208
  go_wp2
  go_ret
  exact⟨_,rfl,Own.nil _ _ _ _,Below.refl _ _⟩
def flt:List Bw→List Int
 |[]=>[]
 |a::r=>a.l++flt r
theorem adM:∀r s:List Bw,flt (r++s)=flt r++flt s
 |[],s=>rfl
 |a::r,s=>by simp[flt,adM r s]
theorem ahd {r:List Bw}{k:Nat}{a:Bw}(h:r[k]? =some a):flt (r.take (k+1))=flt (r.take k)++a.l:=by
 obtain⟨h1,h2⟩:=List.getElem?_eq_some_iff.1 h
 rw[List.take_succ_eq_append_getElem h1,adM,h2]
 simp[flt]
theorem amq (r:List Bw)(k:Nat):(flt (r.take k)).length≤(flt r).length:=by
 have:flt r=flt (r.take k)++flt (r.drop k):=by rw[←adM,List.take_append_drop]
 rw[this,List.length_append]
 omega
theorem alc (v:Value)(r:List Bw)(w:World)(h:abm w v r)(hr:r.length≤1000)(hl:(flt r).length≤150000000000000):
  Calls Tryz.prog 186 #[v] w fun E w'=>∃v',E=.returned v'∧Own .u8 5 w.heap.size w' v' (flt r)∧Below w.heap.size w w':=by
 obtain⟨ao,cap,hv,hcap,hcm⟩:=h.1.shape
 have H:=hide h
 subst hv
 clear h
 go_enter Tryz.func186,Tryz.ntmps186
 go_wp2
 go_loopw [3,11] (fun sv iv wr=>∃k:Nat,k≤r.length∧iv=.int .i64 k∧sv=.int .i64 (flt (r.take k)).length∧w=wr) (fun _ iv _=>r.length-(intOf iv).toNat)
 case atStart=>exact⟨0,by omega,rfl,rfl,rfl⟩
 case round=>
  obtain⟨k,hk,rfl,rfl,rfl⟩:=hrel
  by_cases hlt:k<r.length
  ·obtain⟨b,off,cq,dL,_,_,hB,hcell⟩:=H.out.full (by omega)
   simp only[Value.slice.injEq,true_and]at dL
   obtain⟨rfl,rfl⟩:=dL
   obtain⟨a,ha⟩:∃a,r[k]? =some a:=⟨r[k],by rw[List.getElem?_eq_getElem]⟩
   have e4:=hcell k a ha
   obtain⟨av,ac,hav,_,_⟩:=(H.out.2 a (List.mem_of_getElem? ha)).shape
   rw[hav]at e4
   have hlt':(k:Int)<r.length:=by omega
   have hn:=ahd ha
   have hm:=amq r (k+1)
   have hn2:(flt (r.take (k+1))).length=(flt (r.take k)).length+a.l.length:=by rw[hn,List.length_append]
   have hn3:((flt (r.take (k+1))).length:Int)=((flt (r.take k)).length:Int)+(a.l.length:Int):=by omega
   generalize hq:(flt (r.take k)).length=q at*
   have e5:IntKind.i64.wrap ((q:Int)+(a.l.length:Int))=(q:Int)+a.l.length:=aN _ (by omega) (by omega)
   have e6:¬(q:Int)+(a.l.length:Int)<0:=by omega
   have hk0:(0:Int)≤(k:Int):=by omega
   clear hcell hn hq hav ha
   go_wp2
   go_roundw
   case rel=>exact⟨k+1,by omega,by go_num,by rw[hn3],trivial⟩
   case measure=>simp[intOf];omega
  ·obtain rfl:k=r.length:=by omega
   rw[List.take_length]
   have hlt':¬(r.length:Int)<r.length:=by omega
   go_wp2_with fail
   refine(am2 (flt r).length _ hl).mono ?_
   rintro E w1 ⟨v1,rfl,bJ,ax⟩
   have H1:=hide (H.out.below ax)
   go_wp2
   go_loopw [6,27] (fun sv iv wr=>∃k:Nat,k≤r.length∧iv=.int .i64 k∧Own .u8 5 w.heap.size wr sv (flt (r.take k))∧Below w.heap.size w wr) (fun _ iv _=>r.length-(intOf iv).toNat)
   case atStart=>exact⟨0,by omega,rfl,bJ,ax⟩
   case round=>
    clear bJ ax H1
    obtain⟨k,hk,rfl,own,aF⟩:=hrel
    have ru:=aF.size
    by_cases hlt:k<r.length
    ·have H2:=H.out.below aF
     obtain⟨b,off,cq,dL,_,_,hB,hcell⟩:=H2.full (by omega)
     simp only[Value.slice.injEq,true_and]at dL
     obtain⟨rfl,rfl⟩:=dL
     obtain⟨a,ha⟩:∃a,r[k]? =some a:=⟨r[k],by rw[List.getElem?_eq_getElem]⟩
     have e4:=hcell k a ha
     have isa:=H2.2 a (List.mem_of_getElem? ha)
     have hlt':(k:Int)<r.length:=by omega
     have hn:=hide (ahd ha)
     have hm:=amq r (k+1)
     have hn2:(flt (r.take (k+1))).length=(flt (r.take k)).length+a.l.length:=by rw[hn.out,List.length_append]
     have hk0:(0:Int)≤(k:Int):=by omega
     have sum:(flt (r.take k)).length+a.l.length≤150000000000000:=by omega
     clear hcell ha H2 hn2 hm
     generalize flt (r.take k)=q at*
     go_wp2_with (at_builtin;refine dA rfl (.tmp 31) (.tmp 32) 71 rfl .u8 5 w.heap.size 1 Tryz.underlying71 Tryz.info5 (by decide) _ q rfl own _ a.l rfl isa (by simp;omega) ru ?_)
     intro v2 w2 bq aB _
     rw[←hn.out]at bq
     have b3:=aF.trans aB
     clear own isa e4 aB
     go_wp2
     go_roundw
     case rel=>exact⟨k+1,by omega,by go_num,bq,b3⟩
     case measure=>simp[intOf];omega
    ·obtain rfl:k=r.length:=by omega
     rw[List.take_length]at own
     have hlt':¬(r.length:Int)<r.length:=by omega
     go_wp2
     go_ret
     exact⟨_,rfl,own,aF⟩
def apd (bs r:List Int):List Int:=if r.length≤131072 then bs++Fm.dh r else []
def ape (r:List Int):Int:=if r.length≤131072 then 0 else 3
theorem arG (n:Nat)(h:n≤140737488355328):IntKind.u64.wrap (n:Int)=n:=by
 rw[IntKind.wrap_u64];omega
theorem aaR (vb vr:Value)(bs r:List Int)(w:World)(hb:Is .u8 w vb bs)(hr:Is .u8 w vr r)(hl:bs.length≤140737488351232)(hl':r.length≤140737488351232):
  Calls Tryz.prog 136 #[vb,vr] w fun E w'=>∃v',E=.returned (.tuple #[v',.int .i64 (ape r)])∧Own .u8 5 w.heap.size w' v' (apd bs r)∧Below w.heap.size w w':=by
 obtain⟨ro,rc,hv,hcap,hcm⟩:=hr.shape
 subst hv
 obtain⟨bo,bc,hv,hcap',hcm'⟩:=hb.shape
 subst hv
 have HB:=hide hb
 have HR:=hide hr
 clear hb hr
 by_cases hlong:r.length≤131072
 ·have e1:ape r=0:=if_pos hlong
  have e2:apd bs r=bs++Fm.dh r:=if_pos hlong
  rw[e1,e2]
  have hn:¬(131072:Int)<(r.length:Int):=by omega
  have e3:IntKind.u64.wrap (r.length:Int)=r.length:=arG _ (by omega)
  have hz:=Fm.fZ hlong
  clear e1 e2
  go_enter Tryz.func136,Tryz.ntmps136
  go_wp2_with fail
  refine(iG (.slice none 0 0) [] (r.length:Int) _ (Own.nil .u8 5 w.heap.size w).is (by simp) (by omega) (by omega)).mono ?_
  rintro E w1 ⟨v1,rfl,bJ,ax⟩
  rw[List.nil_append,Int.toNat_natCast]at bJ
  obtain⟨no,nc,hv,_,_⟩:=bJ.is.shape
  subst hv
  generalize hvn:Value.slice no (Vm.enc r.length).length nc=v1 at*
  generalize hvb:Value.slice bo bs.length bc=vb at*
  obtain⟨w2,hw2,fA,aB,B2⟩:=ay w1 #[vb,v1,.slice ro r.length rc] 71
  have row:abm w2 (.slice (some ⟨w1.heap.size,0,none⟩) 3 3) [⟨vb,bs⟩,⟨v1,Vm.enc r.length⟩,⟨.slice ro r.length rc,r⟩]:=by
   refine⟨?_,?_⟩
   ·obtain⟨W,hW,_,_,ho⟩:=oI bwc 1 aiN 71 w1 #[vb,v1,.slice ro r.length rc] 3 [⟨vb,bs⟩,⟨v1,Vm.enc r.length⟩,⟨.slice ro r.length rc,r⟩] rfl rfl (by unfold maxLen;omega)
    rw[←hw2,hW]
    exact ho.row
   ·intro a ha
    simp at ha
    rcases ha with rfl|rfl|rfl
    ·exact(HB.out.below ax).below aB
    ·exact(bJ.below aB).is
    ·exact(HR.out.below ax).below aB
  have szs:=ax.size
  have HC:=hide (alc _ _ w2 row (by simp) (by simp[flt];have:(Vm.enc r.length).length≤3:=hz;omega))
  have b02:Below w.heap.size w w2:=ax.trans (aB.mono szs)
  clear bJ row ax aB B2
  subst hvn hvb
  go_wp2_with fail
  refine HC.out.mono ?_
  rintro E w3 ⟨v3,rfl,df,aH⟩
  have bM:Own .u8 5 w2.heap.size w3 v3 (bs++Fm.dh r):=by simpa[flt,Fm.dh]using df
  clear HC df
  go_wp2
  go_ret2
  exact⟨_,rfl,bM.bz (by omega),b02.trans (aH.mono (by omega))⟩
 ·have e1:ape r=3:=if_neg hlong
  have e2:apd bs r=[]:=if_neg hlong
  rw[e1,e2]
  have hn:(131072:Int)<(r.length:Int):=by omega
  go_enter Tryz.func136,Tryz.ntmps136
  go_wp2
  go_ret2
  exact⟨_,rfl,Own.nil _ _ _ _,Below.refl _ _⟩
theorem iB {bs:List Int}{most:Nat}{u i g:Int}(hm:most<18446744073709551616)(h:xA bs most u i g):
  (∃x:Nat,u=x∧i=Vm.sz x∧g=0∧x≤most∧Vm.enc x<+:bs)∨(u=0∧i=0∧g=5∧∀x:Nat,x≤most→¬Vm.enc x<+:bs):=by
 rcases h with⟨hR,h1,h2,he⟩|⟨hu,hi,he,x,n,f,hR,hcase⟩
 ·rcases hR with⟨x,hx,hp,h3,h4,_⟩|⟨_,_,_,h5⟩
  ·exact .inl ⟨x,h3,h4,he,by omega,hp⟩
  ·simp at h5
 ·refine .inr ⟨hu,hi,he,fun y hy hp=>?_⟩
  have:=Vm.nQ hR (u:=y) (by omega) hp
  omega
theorem axK {bs:List Int}(h:∀x:Nat,x≤131072→¬Vm.enc x<+:bs):Fm.Rd bs [] 0 5:=.inr ⟨rfl,rfl,rfl,fun s hs hp=>h _ hs (Fm.adP hp).1⟩
theorem arc {bs:List Int}{x:Nat}(h:Vm.enc x<+:bs)(hx:bs.length-Vm.sz x<x):Fm.Rd bs [] 0 5:=.inr ⟨rfl,rfl,rfl,fun s hs hp=>by
 obtain⟨h1,h2,_⟩:=Fm.adP hp
 have:=Vm.bI bs _ _ h h1
 subst this
 omega⟩
theorem auD {bs:List Int}{x:Nat}(h:Vm.enc x<+:bs)(h':x≤131072)(hx:x≤bs.length-Vm.sz x):Fm.Rd bs ((bs.drop (Vm.sz x)).take x) (Vm.sz x+x) 0:=by
 obtain⟨h1,h2⟩:=Fm.avJ h hx
 exact .inl ⟨rfl,by omega,by rw[h1],h2⟩
theorem oN (vb:Value)(bs:List Int)(w:World)(hb:Is .u8 w vb bs)(hl:bs.length≤150000000000000):
  Calls Tryz.prog 190 #[vb] w fun E w'=>∃(v:Value) (r:List Int) (n:Nat) (e:Int),E=.returned (.tuple #[v,.int .i64 n,.int .i64 e])∧Own .u8 5 w.heap.size w' v r∧Below w.heap.size w w'∧Hid (Fm.Rd bs r n e):=by
 obtain⟨u,i,g,hS⟩:=ig bs ((131072:Nat):Int)
 have HS:=hide (dH vb bs _ u i g w hb hl (by omega) (by omega) hS)
 rcases iB (by omega) hS with⟨x,rfl,rfl,rfl,hx,hp⟩|⟨rfl,rfl,rfl,hno⟩
 ·have hz:=Fm.fZ hx
  have hpl:Vm.sz x≤bs.length:=hp.length_le
  by_cases hlong:x≤bs.length-Vm.sz x
  ·have R:=hide (auD hp hx hlong)
   obtain⟨vs,hsl,dC⟩:=hb.xg Tryz.lG Tryz.nC (Vm.sz x) (Vm.sz x+x) (by omega) (by omega)
   rw[show Vm.sz x+x-Vm.sz x=x by omega]at dC
   have hlt:((bs.drop (Vm.sz x)).take x).length≤131072:=by rw[List.length_take,List.length_drop];omega
   have HC:=hide (vN vs _ w dC (by omega))
   obtain⟨ao,cap,hv,hcap,hcm⟩:=hb.shape
   subst hv
   clear hb dC hlt hS hp
   generalize (bs.drop (Vm.sz x)).take x=r at*
   generalize Vm.sz x=m at*
   have e1:IntKind.i64.wrap ((bs.length:Int)-(m:Int))=(bs.length:Int)-m:=aN _ (by omega) (by omega)
   have e2:IntKind.i64.wrap ((m:Int)+(x:Int))=(m:Int)+x:=aN _ (by omega) (by omega)
   have e3:¬(bs.length:Int)-m<x:=by omega
   have hsl2:∀wx,(Instr.slice 71 (.slice ao bs.length cap) (some (.int .i64 (m:Int))) (some (.int .i64 ((m:Int)+(x:Int)))) none).run Tryz.prog wx=.ok vs wx:=by simpa using hsl
   clear hsl
   go_enter Tryz.func190,Tryz.ntmps190
   go_wp2_with fail
   refine HS.out.mono ?_
   rintro E w1 ⟨rfl,rfl⟩
   clear HS
   go_wp2_with fail
   refine HC.out.mono ?_
   rintro E w2 ⟨v2,rfl,bq,aB⟩
   clear HC hsl2
   go_wp2
   go_ret3
   exact⟨v2,r,m+x,0,by simp,bq,aB,R⟩
  ·have R:=hide (arc hp (by omega))
   obtain⟨ao,cap,hv,hcap,hcm⟩:=hb.shape
   subst hv
   clear hb hS hp
   generalize Vm.sz x=m at*
   have e1:IntKind.i64.wrap ((bs.length:Int)-(m:Int))=(bs.length:Int)-m:=aN _ (by omega) (by omega)
   have e3:(bs.length:Int)-m<x:=by omega
   go_enter Tryz.func190,Tryz.ntmps190
   go_wp2_with fail
   refine HS.out.mono ?_
   rintro E w1 ⟨rfl,rfl⟩
   clear HS
   go_wp2
   go_ret3
   exact⟨_,[],0,5,rfl,Own.nil _ _ _ _,Below.refl _ _,R⟩
 ·have R:=hide (axK hno)
  clear hb hS hno
  go_enter Tryz.func190,Tryz.ntmps190
  go_wp2_with fail
  refine HS.out.mono ?_
  rintro E w1 ⟨rfl,rfl⟩
  clear HS
  go_wp2
  go_ret3
  exact⟨_,[],0,5,rfl,Own.nil _ _ _ _,Below.refl _ _,R⟩
end Go.Proofs.YtpifdeoepppadaaGreatDoor
