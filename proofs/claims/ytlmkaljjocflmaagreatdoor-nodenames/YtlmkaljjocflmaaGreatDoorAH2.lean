/- Texts of one layer, one behind the other. -/
import Derived.Test.YtlmkaljjocflmaaGreatDoorAG1
import Derived.Test.YtlmkaljjocflmaaGreatDoorAH1
import Derived.Test.YtlmkaljjocflmaaGreatDoorAH3
import Derived.Lib.AppendZeros
import Derived.Test.YtlmkaljjocflmaaGreatDoorAG2
import Derived.Test.YtlmkaljjocflmaaGreatDoorProg
set_option maxRecDepth 100000
set_option maxHeartbeats 8000000
namespace Go.Proofs.YtlmkaljjocflmaaGreatDoor
open Go.RowKit
set_option linter.unusedVariables false
structure Bw where
 v:Value
 l:List Int
def bwc (a:Bw):List Value:=[a.v]
theorem agP (a:Bw):(bwc a).length=1:=rfl
def zb (w:World) (v:Value) (r:List Bw):Prop:=iA bwc w v r∧∀a∈r,Is .u8 w a.v a.l
theorem zb.below {w w':World}{v:Value}{r:List Bw}(h:zb w v r)(hb:Below w.heap.size w w'):zb w' v r:=⟨h.1.below hb,fun a ha=>(h.2 a ha).below hb⟩
theorem zb.full {w:World}{v:Value}{r:List Bw}(h:zb w v r)(hne:0<r.length):
  ∃b off cap,v=.slice (some ⟨b,off,none⟩) r.length cap∧r.length≤cap∧cap≤maxLen∧b<w.heap.size∧∀i a,r[i]? =some a→w.cell? ⟨b,off+i,none⟩=some a.v:=by
 obtain⟨b,off,cap,h1,h2,h3,h4,h5⟩:=h.1.full agP (by decide) hne
 refine⟨b,off,cap,h1,h2,h3,h4,fun i a ha=>?_⟩
 have:=h5 i a ha 0 a.v rfl
 simpa using this
structure OwnB (base:Nat) (w:World) (v:Value) (r:List Bw):Prop where
 row:dI bwc 1 61 base w v r
 own:∀a∈r,Own .u8 5 base w a.v a.l
 apart:r.Pairwise (fun a b=>∀g,a.v.ownBlock=some g→b.v.ownBlock≠some g)
section
variable {P:Program} {w:World} {v:Value}
theorem Is.kY {k:IntKind}{zs:List Int}(h:Is k w v zs){t:TypeId}(ht:P.underlying t=some (.slice (P.elem t)))(hs:∀wx,(sizeOf (P.elem t)).run P wx=.ok 1 wx)(p:Nat)(hp:p≤zs.length):
  ∃vs,(∀wx,(Instr.slice t v none (some (.int .i64 p)) none).run P wx=.ok vs wx)∧Is k w vs (zs.take p):=by
 obtain⟨vs,h1,h2⟩:=h.pF ht hs 0 p (by omega) hp
 rw[List.drop_zero,Nat.sub_zero]at h2
 refine⟨vs,fun wx=>?_,h2⟩
 obtain⟨ao,cap,rfl,hcap,_⟩:=h.shape
 rw[←h1 wx,run_slice_lh wx t ao zs.length cap ht .i64 .i64 _ _ (by omega) (by omega) (by omega),run_slice_h wx t ao zs.length cap ht .i64 _ (by omega) (by omega)]
 simp
end
theorem Tryz.lG:Tryz.prog.underlying 61=some (.slice (Tryz.prog.elem 61)):=by kernel_rfl
theorem Tryz.mF (wx:World):(sizeOf (Tryz.prog.elem 61)).run Tryz.prog wx=.ok 1 wx:=by kernel_rfl
theorem akG {y:Int}{n m:Nat}(h0:0≤y)(hs:Vm.sz y.toNat+n=m+1)(h:(y / 128==0)=true):(n:Int)=m:=by
 have h:=beq_iff_eq.1 h
 have:=Vm.gN (x:=y.toNat) (by omega)
 omega
theorem alF {y:Int}{n m:Nat}(h0:0≤y)(hs:Vm.sz y.toNat+n=m+1)(hm:m≤10)(h:(y / 128==0)=false):
  Vm.sz (y / 128).toNat+(n+1)=m+1∧n+1≤10∧(y / 128).toNat<y.toNat:=by
 have h:=beq_eq_false_iff_ne.1 h
 have:=Vm.adl (x:=y.toNat) (by omega)
 have e:(y / 128).toNat=y.toNat / 128:=by omega
 have:=Vm.rT (y / 128).toNat
 rw[e]at*
 omega
theorem ae8 (x:Int)(w:World)(h0:0≤x)(h1:x<18446744073709551616):
  Calls Tryz.prog 207 #[.int .u64 x] w fun e w'=>e=.returned (.int .i64 (Vm.sz x.toNat))∧w=w':=by
 have hm:=Vm.kQ (x:=x.toNat) (by omega)
 go_enter Tryz.func207,Tryz.ntmps207
 go_wp2
 go_loop [0,3] (fun xx nn=>∃(y:Int) (n:Nat),0≤y∧y<18446744073709551616∧1≤n∧n≤10∧xx=.int .u64 y∧nn=.int .i64 n∧Vm.sz y.toNat+n=Vm.sz x.toNat+1) (fun xx _=>(intOf xx).toNat)
 case atStart=>exact⟨x,1,h0,h1,by omega,by omega,rfl,rfl,rfl⟩
 case round=>
  obtain⟨y,n,hy0,hy1,hn0,hn1,rfl,rfl,hs⟩:=hrel
  have HS:Hid (Vm.sz y.toNat+n=Vm.sz x.toNat+1):=hs
  clear hs
  go_wp2
  ·have hb:(y / 128==0)=true:=by assumption
   go_ret
   exact⟨jV (akG hy0 HS.out hb),rfl⟩
  ·have hb:(y / 128==0)=false:=by assumption
   have R:=alF hy0 HS.out hm hb
   go_round
   case rel=>exact⟨y / 128,n+1,by omega,by omega,by omega,R.2.1,rfl,by go_num,R.1⟩
   case measure=>simp[intOf];omega
theorem fK (vb:Value)(bs:List Int)(x:Int)(w:World)(hb:Is .u8 w vb bs)(hlb:bs.length≤140737488351232)(h0:0≤x)(h1:x<18446744073709551616):
  Calls Tryz.prog 155 #[vb,.int .u64 x] w fun e w'=>∃v,e=.returned v∧Own .u8 5 w.heap.size w' v (bs++Vm.enc x.toNat)∧Below w.heap.size w w':=by
 have hm:=Vm.kQ (x:=x.toNat) (by omega)
 obtain⟨ao,cap,hv⟩:∃ao cap,vb=.slice ao bs.length cap:=by
  rcases hb.2 with⟨h,e⟩|⟨ad,cap,hv,_⟩
  ·subst e;exact⟨none,0,h⟩
  ·exact⟨some ad,cap,hv⟩
 subst hv
 obtain⟨i0,hi,hz0,hz1,hz2⟩:=info_parts Tryz.info5
 go_enter Tryz.func155,Tryz.ntmps155
 go_wp2_with (first|(go_at_call 207;refine(ae8 x _ h0 h1).mono ?_;rintro e w' ⟨rfl,rfl⟩)|(at_make;refine wpList_make_own _ rfl _ _ 61 rfl w.heap.size 5 i0 (.int .u8 0) 1 Tryz.underlying61 hi hz0 hz1 _ _ _ (bs.length+Vm.sz x.toNat) rfl rfl (by omega) ?b2 ?b3 (Nat.le_refl _) ?_))
 case b2=>rw[hz2];omega
 case b3=>unfold maxLen;omega
 intro w0 hown0 akg
 have cZ:Below w.heap.size w w0:=(Below.refl _ _).grown akg (Nat.le_refl _) (by simp)
 have aeR:Own .u8 5 w.heap.size w0 (.slice (some ⟨w.heap.size,0,none⟩) 0 (bs.length+Vm.sz x.toNat)) []:=⟨by simp,hown0⟩
 have xQ:=hb.below cZ
 have pY:=cZ.size
 clear hown0 akg
 go_wp2_with (at_builtin;refine cK rfl (.tmp 12) (.tmp 13) 61 rfl .u8 5 w.heap.size 1 Tryz.underlying61 Tryz.info5 (by decide) _ [] rfl aeR _ bs rfl xQ (by simp;omega) pY ?_)
 intro v1 w1 aZ ak _
 have aK:=cZ.trans ak
 clear aeR xQ cZ ak pY
 go_wp2
 go_loopw [1,5] (fun xx vv wr=>∃(y:Int) (zs:List Int),0≤y∧y<18446744073709551616∧xx=.int .u64 y∧zs.length≤140737488351242∧Own .u8 5 w.heap.size wr vv zs∧zs++Vm.enc y.toNat=bs++Vm.enc x.toNat∧Below w.heap.size w wr) (fun xx _ _=>(intOf xx).toNat)
 case atStart=>exact⟨x,bs,h0,h1,rfl,by omega,aZ,rfl,aK⟩
 case round=>
  obtain⟨y,zs,hy0,hy1,rfl,hl,own,heq,gm⟩:=hrel
  have HE:=hide heq
  clear heq aZ aK
  have szr:=gm.size
  by_cases hy:y≤127
  ·have e1:y % 256=y:=by omega
   have W:=wf_u8 (z:=y) hy0 (by omega)
   go_wp2_with (at_builtin;refine cK rfl (.tmp 17) (.tmp 20) 61 rfl .u8 5 w.heap.size 1 Tryz.underlying61 Tryz.info5 (by decide) _ zs rfl (own.below ((Below.refl _ _).alloc (Nat.le_refl _) _)) _ [y] rfl (Is.one .u8 _ _ 5 W) (by simp;omega) (by simp;omega) ?_)
   intro v2 w2 aY az _
   go_wp2
   go_ret
   refine⟨_,rfl,?_,(gm.alloc szr _).trans az⟩
   rw[←HE.out,Vm.lK (x:=y.toNat) (by omega),Int.toNat_of_nonneg hy0]
   exact aY
  ·have e1:=ahK y hy0 hy1
   have e2:y % 128 % 256=y % 128:=by omega
   have e3:=ame (y % 128) (by omega) (by omega)
   have W:=wf_u8 (z:=y % 128+128) (by omega) (by omega)
   go_wp2_with (at_builtin;refine cK rfl (.tmp 22) (.tmp 27) 61 rfl .u8 5 w.heap.size 1 Tryz.underlying61 Tryz.info5 (by decide) _ zs rfl (own.below ((Below.refl _ _).alloc (Nat.le_refl _) _)) _ [y % 128+128] rfl (Is.one .u8 _ _ 5 W) (by simp;omega) (by simp;omega) ?_)
   intro v2 w2 aY az _
   have HE2:zs++[y % 128+128]++Vm.enc (y / 128).toNat=bs++Vm.enc x.toNat:=by
    rw[←HE.out,Vm.oQ (x:=y.toNat) (by omega)]
    have:(y / 128).toNat=y.toNat / 128:=by omega
    have:((y.toNat % 128+128:Nat):Int)=y % 128+128:=by omega
    simp_all
   have HL:zs.length+1≤140737488351242:=by
    have:=congrArg List.length HE2
    have:=Vm.rT (y / 128).toNat
    simp at*
    unfold Vm.sz at*
    omega
   have HE3:=hide HE2
   have b3:=(gm.alloc szr _).trans az
   clear HE2 own e1 e2 e3
   go_wp2
   go_roundw
   case rel=>exact⟨y / 128,zs++[y % 128+128],by omega,by omega,rfl,by simp;omega,aY,HE3.out,b3⟩
   case measure=>simp[intOf];omega
theorem vZ {x n e x' n' e':Int}(h:x=x'∧n=n'∧e=e'):Ending.returned (.tuple #[.int .u64 x',.int .i64 n',.int .i64 e'])=.returned (.tuple #[.int .u64 x,.int .i64 n,.int .i64 e]):=by
 obtain⟨rfl,rfl,rfl⟩:=h;rfl
theorem zh {bs:List Int}{x n e:Int}(hR:Vm.Res bs x n e){u k:Nat}(hu:u<18446744073709551616)(hp:Vm.enc u<+:bs)(hs:Vm.sz u=k+1):x=(u:Int)∧n=(k:Int)+1∧e=0:=by
 have:=Vm.pM hR hu hp
 omega
theorem ug (vb:Value)(bs:List Int)(x n e:Int)(w:World)(hb:Is .u8 w vb bs)(hl:bs.length≤150000000000000)(hR:Vm.Res bs x n e):
  Calls Tryz.prog 266 #[vb] w fun E w'=>E=.returned (.tuple #[.int .u64 x,.int .i64 n,.int .i64 e])∧w=w':=by
 by_cases hz:0<bs.length
 ·have hbyte:=fun i=>hb.byte i
  have HBY:=hide hbyte
  obtain⟨b1,o1,c1,rfl,_,_,hB1,hc1⟩:=hb.full hz
  have HC:=hide hc1
  clear hc1 hbyte hb
  go_enter Tryz.func266,Tryz.ntmps266
  go_wp2
  go_loop [2,3] (fun xx nn=>∃(acc:Nat) (k:Nat),k≤9∧k≤bs.length∧xx=.int .u64 acc∧nn=.int .i64 k∧Vm.Inv bs k acc) (fun _ nn=>10-(intOf nn).toNat)
  case atStart=>exact⟨0,0,by omega,by omega,rfl,rfl,Vm.akl bs⟩
  case round=>
   obtain⟨acc,k,hk,hk2,rfl,rfl,hinv⟩:=hrel
   have HI:=hide hinv
   clear hinv
   by_cases hlt:k<bs.length
   ·have hq:((k:Int)==(bs.length:Int))=false:=by simp;omega
    have g1:=HC.out k hlt
    have hlt':(k:Int)<bs.length:=by omega
    have hc0:=HBY.out k
    generalize hcc:bs.getD k 0=c at*
    have nR:=hide hcc
    have h70:=aka c hc0.1 hc0.2
    have h71:=abf (c % 128) (by omega) (by omega)
    clear hcc
    by_cases h9:k=9
    ·have h9':((k:Int)==9)=true:=by simp[h9]
     have H9:=hide h9
     have HI9:Hid (Vm.Inv bs 9 acc):=by have:=HI.out;rw[h9]at this;exact this
     have HC9:Hid (bs.getD 9 0=c):=by have:=nR.out;rw[h9]at this;exact this
     clear h9
     by_cases hc1:1<c
     ·go_wp2
      go_ret3
      exact⟨vZ (Vm.rO hR (Vm.ank HI9.out (by rw[←H9.out];exact hlt) HC9.out hc1 hc0.2)),rfl⟩
     ·have hfit:acc+(c % 128).toNat*128 ^ k<18446744073709551616:=by rw[H9.out];exact Vm.ajh HI9.out hc0.1 (by omega)
      have e1:=afE acc k (c % 128) (by omega) HI.out.1 hfit
      generalize hna:acc+(c % 128).toNat*128 ^ k=na at*
      have HNA:=hide hna
      clear hna
      have hk1:1≤k:=by have:=H9.out;omega
      have atf:1<(k:Int)+1:=by omega
      by_cases hcz:c=0
      ·have aoo:(c==0)=true:=by simp[hcz]
       have HZ:=hide hcz
       clear hcz
       go_wp2
       go_ret3
       exact⟨vZ (Vm.rO hR (Vm.inv_zero HI.out hlt (nR.out.trans HZ.out) hk1)),rfl⟩
      ·have aoo:(c==0)=false:=by simp[hcz]
       have G:=hide (Vm.abk HI.out hlt nR.out hc0.1 (by omega) (.inl (by omega)))
       go_wp2
       go_ret3
       have G:=G.out
       rw[HNA.out]at G
       exact⟨vZ (zh hR hfit G.1 G.2),rfl⟩
    ·have h9':((k:Int)==9)=false:=by simp;omega
     have hfit:=Vm.amh HI.out (c:=c) (by omega) hc0.1
     have e1:=afE acc k (c % 128) (by omega) HI.out.1 hfit
     generalize hna:acc+(c % 128).toNat*128 ^ k=na at*
     have HNA:=hide hna
     clear hna
     by_cases h128:c≤127
     ·by_cases hk1:1≤k
      ·have atf:1<(k:Int)+1:=by omega
       by_cases hcz:c=0
       ·have aoo:(c==0)=true:=by simp[hcz]
        have HZ:=hide hcz
        clear hcz
        go_wp2
        go_ret3
        exact⟨vZ (Vm.rO hR (Vm.inv_zero HI.out hlt (nR.out.trans HZ.out) hk1)),rfl⟩
       ·have aoo:(c==0)=false:=by simp[hcz]
        have G:=hide (Vm.abk HI.out hlt nR.out hc0.1 (by omega) (.inl (by omega)))
        go_wp2
        go_ret3
        have G:=G.out
        rw[HNA.out]at G
        exact⟨vZ (zh hR hfit G.1 G.2),rfl⟩
      ·have atf:¬1<(k:Int)+1:=by omega
       have G:=hide (Vm.abk HI.out hlt nR.out hc0.1 (by omega) (.inr (by omega)))
       go_wp2
       go_ret3
       have G:=G.out
       rw[HNA.out]at G
       exact⟨vZ (zh hR hfit G.1 G.2),rfl⟩
     ·go_wp2
      go_round
      case rel=>exact⟨na,k+1,by omega,by omega,rfl,by go_num,by have:=Vm.anC HI.out hlt nR.out (by omega) hc0.2;rw[HNA.out]at this;exact this⟩
      case measure=>simp[intOf];omega
   ·have hq:((k:Int)==(bs.length:Int))=true:=by simp;omega
    go_wp2
    go_ret3
    exact⟨vZ (Vm.rO hR (Vm.ai9 HI.out (by omega))),rfl⟩
 ·have hx:bs=[]:=List.eq_nil_of_length_eq_zero (by omega)
  subst hx
  obtain⟨a1,c1,rfl⟩:=hb.bare
  clear hb hl hz
  go_enter Tryz.func266,Tryz.ntmps266
  go_wp2
  refine wp_loop_rounds 1 ?_
  rw[rounds_succ]
  go_wp2
  go_ret3
  exact⟨vZ (Vm.rO hR (fun u _=>Vm.pre_nil u)),rfl⟩
def yQ (bs:List Int) (most u i g:Int):Prop:=
 (Vm.Res bs u i 0∧0≤most∧u≤most∧g=0)∨(u=0∧i=0∧g=5∧∃x n e,Vm.Res bs x n e∧(e=5∨(e=0∧(most<0∨(0≤most∧most<x)))))
theorem rA (bs:List Int)(most:Int):∃u i g,yQ bs most u i g:=by
 obtain⟨x,n,e,hR⟩:=Vm.auC bs
 have hb:=Vm.kg hR
 by_cases h:e=0∧0≤most∧x≤most
 ·obtain⟨rfl,h1,h2⟩:=h
  exact⟨x,n,0,.inl ⟨hR,h1,h2,rfl⟩⟩
 ·exact⟨0,0,5,.inr ⟨rfl,rfl,rfl,x,n,e,hR,by omega⟩⟩
theorem kS (vb:Value)(bs:List Int)(most u i g:Int)(w:World)(hb:Is .u8 w vb bs)(hl:bs.length≤150000000000000)(hm:most<9223372036854775808)(hm':-9223372036854775808≤most)(hS:yQ bs most u i g):
  Calls Tryz.prog 203 #[vb,.int .i64 most] w fun E w'=>E=.returned (.tuple #[.int .i64 u,.int .i64 i,.int .i64 g])∧w=w':=by
 rcases hS with⟨hR,h0,h1,hg⟩|⟨hu,hi,hg,x,n,e,hR,hcase⟩
 ·have hbd:=Vm.kg hR
  have hq:((0:Int) !=0)=false:=by simp
  subst hg
  go_enter Tryz.func203,Tryz.ntmps203
  go_wp2_with (go_at_call 266;refine(ug _ _ _ _ _ _ hb hl hR).mono ?_;rintro E w1 ⟨rfl,rfl⟩)
  go_ret3
  exact⟨rfl,rfl⟩
 ·have hbd:=Vm.kg hR
  subst hu hi hg
  rcases hcase with he|⟨he,h|⟨h,h'⟩⟩
  ·subst he
   go_enter Tryz.func203,Tryz.ntmps203
   go_wp2_with (go_at_call 266;refine(ug _ _ _ _ _ _ hb hl hR).mono ?_;rintro E w1 ⟨rfl,rfl⟩)
   go_ret3
   exact⟨rfl,rfl⟩
  ·subst he
   go_enter Tryz.func203,Tryz.ntmps203
   go_wp2_with (go_at_call 266;refine(ug _ _ _ _ _ _ hb hl hR).mono ?_;rintro E w1 ⟨rfl,rfl⟩)
   go_ret3
   exact⟨rfl,rfl⟩
  ·subst he
   go_enter Tryz.func203,Tryz.ntmps203
   go_wp2_with (go_at_call 266;refine(ug _ _ _ _ _ _ hb hl hR).mono ?_;rintro E w1 ⟨rfl,rfl⟩)
   go_ret3
   exact⟨rfl,rfl⟩
theorem Tryz.av6:Tryz.prog.underlying 3=some (.int .i64):=by kernel_rfl
theorem al4 (n:Nat):(Builtin.zeroCells (Value.int .u8 0).cells n).toList=(List.replicate n (0:Int)).map (Value.int .u8):=by
 apply List.ext_getElem?
 intro i
 simp[Builtin.zeroCells,Value.cells,List.getElem?_replicate]
 by_cases h:i<n<;>simp[h,Nat.mod_one]
theorem akZ (w:World)(n:Nat)(h0:0<n)(h1:n≤150000000000000):Hid (∀ty,∃v' w',(Builtin.append_ #[61,3] ty #[.slice none 0 0,.int .i64 n]).run Tryz.prog w=.ok v' w'∧Own .u8 5 w.heap.size w' v' (List.replicate n 0)∧Below w.heap.size w w'):=by
 obtain⟨i,hi,hz,hsize,hb⟩:=info_parts Tryz.info5
 refine hide fun ty=>⟨_,_,Lib.run_append_nil_zeros w 61 3 ty 5 i (.int .u8 0) .i64 .i64 Tryz.underlying61 Tryz.av6 hi hz n h0 (by omega) (by omega) (by rw[hb];omega),?_,?_⟩
 ·refine⟨fun z hz=>?_,?_⟩
  ·rw[List.eq_of_mem_replicate hz];rfl
  ·rw[List.length_replicate]
   refine aa6 w (Value.int .u8 0).cells rfl _ n _ (by simp[Value.cells]) (grownCap_ge w n 0 _) (grownCap_le_maxLen w n 0 _ (by unfold maxLen;omega)) (Nat.le_refl _) _ ?_
   rw[←al4 n]
 ·exact(Below.refl _ _).grown (uO w _ none) (Nat.le_refl _) (fun k hk=>by cases hk)
theorem xK {P:Program}{w:World}{ops:Array Oper}{rest:List Oper}{o:Oper}{a:Act}{Q:Exit→Act→World→Prop}(hgd:o.guard=none)(s x:Operand)(t tn:TypeId)(ho:o.op=.call {callee:=.builtin .append,args:=#[s,x],argTypes:=#[t,tn]})
  (v vx:Value) (hs:a.eval s=v) (hx:a.eval x=vx) {R:Value→World→Prop} (hrun:∀ty,∃v' w',(Builtin.append_ #[t,tn] ty #[v,vx]).run P w=.ok v' w'∧R v' w')
  (h:∀v' w',R v' w'→wpList P ops Q rest (a.put o.dst v') w'):wpList P ops Q (o::rest) a w:=by
 obtain⟨v',w',hr,hR⟩:=hrun o.type
 exact Lib.wpList_append_run w hgd s x t tn ho v vx hs hx v' w' hr (h v' w' hR)
theorem alH (n:Nat)(w:World)(h1:n≤150000000000000):
  Calls Tryz.prog 298 #[.slice none 0 0,.int .i64 n] w fun E w'=>∃v',E=.returned v'∧Own .u8 5 w.heap.size w' v' []∧Below w.heap.size w w':=by
 have hn0:¬(n:Int)<0:=by omega
 have e1:IntKind.i64.wrap ((n:Int)-0)=n:=by rw[aS _ (by omega) (by omega)];omega
 have hsl:=(Own.nil .u8 5 w.heap.size w).is.kY Tryz.lG Tryz.mF 0 (by simp)
 by_cases h0:0<n
 ·have X:=akZ w n h0 h1
  have hn1:(0:Int)<n:=by omega
  go_enter Tryz.func298,Tryz.ntmps298
  go_wp2_with (at_builtin;refine xK rfl (.tmp 20) (.tmp 21) 61 3 rfl _ _ rfl rfl X.out ?_)
  intro v2 w2 aY az
  obtain⟨vs,hvs,owns,_⟩:=aY.kY Tryz.lG Tryz.mF 0 (by omega)
  have axj:=hvs w2
  simp only[Int.natCast_zero]at axj
  clear X hvs hsl aY
  go_wp2
  go_ret
  exact⟨_,rfl,by simpa using owns,az⟩
 ·obtain rfl:n=0:=by omega
  clear e1
  go_enter Tryz.func298,Tryz.ntmps298
  go_wp2
  go_ret
  exact⟨_,rfl,Own.nil _ _ _ _,Below.refl _ _⟩
def flt:List Bw→List Int
 |[]=>[]
 |a::r=>a.l++flt r
theorem aa7:∀r s:List Bw,flt (r++s)=flt r++flt s
 |[],s=>rfl
 |a::r,s=>by simp[flt,aa7 r s]
theorem aeg {r:List Bw}{k:Nat}{a:Bw}(h:r[k]? =some a):flt (r.take (k+1))=flt (r.take k)++a.l:=by
 obtain⟨h1,h2⟩:=List.getElem?_eq_some_iff.1 h
 rw[List.take_succ_eq_append_getElem h1,aa7,h2]
 simp[flt]
theorem aki (r:List Bw)(k:Nat):(flt (r.take k)).length≤(flt r).length:=by
 have:flt r=flt (r.take k)++flt (r.drop k):=by rw[←aa7,List.take_append_drop]
 rw[this,List.length_append]
 omega
theorem ahr (v:Value)(r:List Bw)(w:World)(h:zb w v r)(hr:r.length≤1000)(hl:(flt r).length≤150000000000000):
  Calls Tryz.prog 248 #[v] w fun E w'=>∃v',E=.returned v'∧Own .u8 5 w.heap.size w' v' (flt r)∧Below w.heap.size w w':=by
 obtain⟨ao,cap,hv,hcap,hcm⟩:=h.1.shape
 have H:=hide h
 subst hv
 clear h
 go_enter Tryz.func248,Tryz.ntmps248
 go_wp2
 go_loopw [3,11] (fun sv iv wr=>∃k:Nat,k≤r.length∧iv=.int .i64 k∧sv=.int .i64 (flt (r.take k)).length∧w=wr) (fun _ iv _=>r.length-(intOf iv).toNat)
 case atStart=>exact⟨0,by omega,rfl,rfl,rfl⟩
 case round=>
  obtain⟨k,hk,rfl,rfl,rfl⟩:=hrel
  by_cases hlt:k<r.length
  ·obtain⟨b,off,cq,fH,_,_,hB,hcell⟩:=H.out.full (by omega)
   simp only[Value.slice.injEq,true_and]at fH
   obtain⟨rfl,rfl⟩:=fH
   obtain⟨a,ha⟩:∃a,r[k]? =some a:=⟨r[k],by rw[List.getElem?_eq_getElem]⟩
   have e4:=hcell k a ha
   obtain⟨av,ac,hav,_,_⟩:=(H.out.2 a (List.mem_of_getElem? ha)).shape
   rw[hav]at e4
   have hlt':(k:Int)<r.length:=by omega
   have hn:=aeg ha
   have hm:=aki r (k+1)
   have hn2:(flt (r.take (k+1))).length=(flt (r.take k)).length+a.l.length:=by rw[hn,List.length_append]
   have hn3:((flt (r.take (k+1))).length:Int)=((flt (r.take k)).length:Int)+(a.l.length:Int):=by omega
   generalize hq:(flt (r.take k)).length=q at*
   have e5:IntKind.i64.wrap ((q:Int)+(a.l.length:Int))=(q:Int)+a.l.length:=aS _ (by omega) (by omega)
   have e6:¬(q:Int)+(a.l.length:Int)<0:=by omega
   have hk0:(0:Int)≤(k:Int):=by omega
   clear hcell hn hq hav ha
   go_wp2
   go_roundw
   case rel=>exact⟨k+1,by omega,by go_num,by rw[hn3],trivial⟩
   case measure=>simp[intOf];omega
  ·obtain rfl:k=r.length:=by omega
   rw[List.take_length]
   have hlt':¬(r.length:Int)<r.length:=by omega
   go_wp2_with fail
   refine(alH (flt r).length _ hl).mono ?_
   rintro E w1 ⟨v1,rfl,aZ,ak⟩
   have H1:=hide (H.out.below ak)
   go_wp2
   go_loopw [6,27] (fun sv iv wr=>∃k:Nat,k≤r.length∧iv=.int .i64 k∧Own .u8 5 w.heap.size wr sv (flt (r.take k))∧Below w.heap.size w wr) (fun _ iv _=>r.length-(intOf iv).toNat)
   case atStart=>exact⟨0,by omega,rfl,aZ,ak⟩
   case round=>
    clear aZ ak H1
    obtain⟨k,hk,rfl,own,aK⟩:=hrel
    have szr:=aK.size
    by_cases hlt:k<r.length
    ·have H2:=H.out.below aK
     obtain⟨b,off,cq,fH,_,_,hB,hcell⟩:=H2.full (by omega)
     simp only[Value.slice.injEq,true_and]at fH
     obtain⟨rfl,rfl⟩:=fH
     obtain⟨a,ha⟩:∃a,r[k]? =some a:=⟨r[k],by rw[List.getElem?_eq_getElem]⟩
     have e4:=hcell k a ha
     have isa:=H2.2 a (List.mem_of_getElem? ha)
     have hlt':(k:Int)<r.length:=by omega
     have hn:=hide (aeg ha)
     have hm:=aki r (k+1)
     have hn2:(flt (r.take (k+1))).length=(flt (r.take k)).length+a.l.length:=by rw[hn.out,List.length_append]
     have hk0:(0:Int)≤(k:Int):=by omega
     have sum:(flt (r.take k)).length+a.l.length≤150000000000000:=by omega
     clear hcell ha H2 hn2 hm
     generalize flt (r.take k)=q at*
     go_wp2_with (at_builtin;refine cK rfl (.tmp 31) (.tmp 32) 61 rfl .u8 5 w.heap.size 1 Tryz.underlying61 Tryz.info5 (by decide) _ q rfl own _ a.l rfl isa (by simp;omega) szr ?_)
     intro v2 w2 aY az _
     rw[←hn.out]at aY
     have b3:=aK.trans az
     clear own isa e4 az
     go_wp2
     go_roundw
     case rel=>exact⟨k+1,by omega,by go_num,aY,b3⟩
     case measure=>simp[intOf];omega
    ·obtain rfl:k=r.length:=by omega
     rw[List.take_length]at own
     have hlt':¬(r.length:Int)<r.length:=by omega
     go_wp2
     go_ret
     exact⟨_,rfl,own,aK⟩
def apd (bs r:List Int):List Int:=if r.length≤131072 then bs++Fm.dB r else []
def zy (r:List Int):Int:=if r.length≤131072 then 0 else 3
theorem anw (n:Nat)(h:n≤140737488355328):IntKind.u64.wrap (n:Int)=n:=by
 rw[IntKind.wrap_u64];omega
theorem yO (vb vr:Value)(bs r:List Int)(w:World)(hb:Is .u8 w vb bs)(hr:Is .u8 w vr r)(hl:bs.length≤140737488351232)(hl':r.length≤140737488351232):
  Calls Tryz.prog 187 #[vb,vr] w fun E w'=>∃v',E=.returned (.tuple #[v',.int .i64 (zy r)])∧Own .u8 5 w.heap.size w' v' (apd bs r)∧Below w.heap.size w w':=by
 obtain⟨ro,rc,hv,hcap,hcm⟩:=hr.shape
 subst hv
 obtain⟨bo,bc,hv,hcap',hcm'⟩:=hb.shape
 subst hv
 have HB:=hide hb
 have HR:=hide hr
 clear hb hr
 by_cases hlong:r.length≤131072
 ·have e1:zy r=0:=if_pos hlong
  have e2:apd bs r=bs++Fm.dB r:=if_pos hlong
  rw[e1,e2]
  have hn:¬(131072:Int)<(r.length:Int):=by omega
  have e3:IntKind.u64.wrap (r.length:Int)=r.length:=anw _ (by omega)
  have hz:=Fm.bJ hlong
  clear e1 e2
  go_enter Tryz.func187,Tryz.ntmps187
  go_wp2_with fail
  refine(fK (.slice none 0 0) [] (r.length:Int) _ (Own.nil .u8 5 w.heap.size w).is (by simp) (by omega) (by omega)).mono ?_
  rintro E w1 ⟨v1,rfl,aZ,ak⟩
  rw[List.nil_append,Int.toNat_natCast]at aZ
  obtain⟨no,nc,hv,_,_⟩:=aZ.is.shape
  subst hv
  generalize hvn:Value.slice no (Vm.enc r.length).length nc=v1 at*
  generalize hvb:Value.slice bo bs.length bc=vb at*
  obtain⟨w2,hw2,dm,az,B2⟩:=au w1 #[vb,v1,.slice ro r.length rc] 61
  have row:zb w2 (.slice (some ⟨w1.heap.size,0,none⟩) 3 3) [⟨vb,bs⟩,⟨v1,Vm.enc r.length⟩,⟨.slice ro r.length rc,r⟩]:=by
   refine⟨?_,?_⟩
   ·obtain⟨W,hW,_,_,ho⟩:=qi bwc 1 agP 61 w1 #[vb,v1,.slice ro r.length rc] 3 [⟨vb,bs⟩,⟨v1,Vm.enc r.length⟩,⟨.slice ro r.length rc,r⟩] rfl rfl (by unfold maxLen;omega)
    rw[←hw2,hW]
    exact ho.row
   ·intro a ha
    simp at ha
    rcases ha with rfl|rfl|rfl
    ·exact(HB.out.below ak).below az
    ·exact(aZ.below az).is
    ·exact(HR.out.below ak).below az
  have szs:=ak.size
  have HC:=hide (ahr _ _ w2 row (by simp) (by simp[flt];have:(Vm.enc r.length).length≤3:=hz;omega))
  have b02:Below w.heap.size w w2:=ak.trans (az.mono szs)
  clear aZ row ak az B2
  subst hvn hvb
  go_wp2_with fail
  refine HC.out.mono ?_
  rintro E w3 ⟨v3,rfl,bG,aC⟩
  have bq:Own .u8 5 w2.heap.size w3 v3 (bs++Fm.dB r):=by simpa[flt,Fm.dB]using bG
  clear HC bG
  go_wp2
  go_ret2
  exact⟨_,rfl,bq.bz (by omega),b02.trans (aC.mono (by omega))⟩
 ·have e1:zy r=3:=if_neg hlong
  have e2:apd bs r=[]:=if_neg hlong
  rw[e1,e2]
  have hn:(131072:Int)<(r.length:Int):=by omega
  go_enter Tryz.func187,Tryz.ntmps187
  go_wp2
  go_ret2
  exact⟨_,rfl,Own.nil _ _ _ _,Below.refl _ _⟩
theorem aj0 {bs:List Int}{most:Nat}{u i g:Int}(hm:most<18446744073709551616)(h:yQ bs most u i g):
  (∃x:Nat,u=x∧i=Vm.sz x∧g=0∧x≤most∧Vm.enc x<+:bs)∨(u=0∧i=0∧g=5∧∀x:Nat,x≤most→¬Vm.enc x<+:bs):=by
 rcases h with⟨hR,h1,h2,he⟩|⟨hu,hi,he,x,n,f,hR,hcase⟩
 ·rcases hR with⟨x,hx,hp,h3,h4,_⟩|⟨_,_,_,h5⟩
  ·exact .inl ⟨x,h3,h4,he,by omega,hp⟩
  ·simp at h5
 ·refine .inr ⟨hu,hi,he,fun y hy hp=>?_⟩
  have:=Vm.pM hR (u:=y) (by omega) hp
  omega
theorem auF {bs:List Int}(h:∀x:Nat,x≤131072→¬Vm.enc x<+:bs):Fm.Rd bs [] 0 5:=.inr ⟨rfl,rfl,rfl,fun s hs hp=>h _ hs (Fm.ru hp).1⟩
theorem aog {bs:List Int}{x:Nat}(h:Vm.enc x<+:bs)(hx:bs.length-Vm.sz x<x):Fm.Rd bs [] 0 5:=.inr ⟨rfl,rfl,rfl,fun s hs hp=>by
 obtain⟨h1,h2,_⟩:=Fm.ru hp
 have:=Vm.cz bs _ _ h h1
 subst this
 omega⟩
theorem aqu {bs:List Int}{x:Nat}(h:Vm.enc x<+:bs)(h':x≤131072)(hx:x≤bs.length-Vm.sz x):Fm.Rd bs ((bs.drop (Vm.sz x)).take x) (Vm.sz x+x) 0:=by
 obtain⟨h1,h2⟩:=Fm.akU h hx
 exact .inl ⟨rfl,by omega,by rw[h1],h2⟩
theorem qm (vb:Value)(bs:List Int)(w:World)(hb:Is .u8 w vb bs)(hl:bs.length≤150000000000000):
  Calls Tryz.prog 142 #[vb] w fun E w'=>∃(v:Value) (r:List Int) (n:Nat) (e:Int),E=.returned (.tuple #[v,.int .i64 n,.int .i64 e])∧Own .u8 5 w.heap.size w' v r∧Below w.heap.size w w'∧Hid (Fm.Rd bs r n e):=by
 obtain⟨u,i,g,hS⟩:=rA bs ((131072:Nat):Int)
 have HS:=hide (kS vb bs _ u i g w hb hl (by omega) (by omega) hS)
 rcases aj0 (by omega) hS with⟨x,rfl,rfl,rfl,hx,hp⟩|⟨rfl,rfl,rfl,hno⟩
 ·have hz:=Fm.bJ hx
  have hpl:Vm.sz x≤bs.length:=hp.length_le
  by_cases hlong:x≤bs.length-Vm.sz x
  ·have R:=hide (aqu hp hx hlong)
   obtain⟨vs,hsl,gy⟩:=hb.pF Tryz.lG Tryz.mF (Vm.sz x) (Vm.sz x+x) (by omega) (by omega)
   rw[show Vm.sz x+x-Vm.sz x=x by omega]at gy
   have hlt:((bs.drop (Vm.sz x)).take x).length≤131072:=by rw[List.length_take,List.length_drop];omega
   have HC:=hide (nZ vs _ w gy (by omega))
   obtain⟨ao,cap,hv,hcap,hcm⟩:=hb.shape
   subst hv
   clear hb gy hlt hS hp
   generalize (bs.drop (Vm.sz x)).take x=r at*
   generalize Vm.sz x=m at*
   have e1:IntKind.i64.wrap ((bs.length:Int)-(m:Int))=(bs.length:Int)-m:=aS _ (by omega) (by omega)
   have e2:IntKind.i64.wrap ((m:Int)+(x:Int))=(m:Int)+x:=aS _ (by omega) (by omega)
   have e3:¬(bs.length:Int)-m<x:=by omega
   have hsl2:∀wx,(Instr.slice 61 (.slice ao bs.length cap) (some (.int .i64 (m:Int))) (some (.int .i64 ((m:Int)+(x:Int)))) none).run Tryz.prog wx=.ok vs wx:=by simpa using hsl
   clear hsl
   go_enter Tryz.func142,Tryz.ntmps142
   go_wp2_with fail
   refine HS.out.mono ?_
   rintro E w1 ⟨rfl,rfl⟩
   clear HS
   go_wp2_with fail
   refine HC.out.mono ?_
   rintro E w2 ⟨v2,rfl,aY,az⟩
   clear HC hsl2
   go_wp2
   go_ret3
   exact⟨v2,r,m+x,0,by simp,aY,az,R⟩
  ·have R:=hide (aog hp (by omega))
   obtain⟨ao,cap,hv,hcap,hcm⟩:=hb.shape
   subst hv
   clear hb hS hp
   generalize Vm.sz x=m at*
   have e1:IntKind.i64.wrap ((bs.length:Int)-(m:Int))=(bs.length:Int)-m:=aS _ (by omega) (by omega)
   have e3:(bs.length:Int)-m<x:=by omega
   go_enter Tryz.func142,Tryz.ntmps142
   go_wp2_with fail
   refine HS.out.mono ?_
   rintro E w1 ⟨rfl,rfl⟩
   clear HS
   go_wp2
   go_ret3
   exact⟨_,[],0,5,rfl,Own.nil _ _ _ _,Below.refl _ _,R⟩
 ·have R:=hide (auF hno)
  clear hb hS hno
  go_enter Tryz.func142,Tryz.ntmps142
  go_wp2_with fail
  refine HS.out.mono ?_
  rintro E w1 ⟨rfl,rfl⟩
  clear HS
  go_wp2
  go_ret3
  exact⟨_,[],0,5,rfl,Own.nil _ _ _ _,Below.refl _ _,R⟩
def vp (x:Pm.Pg):Value:=.agg #[.int .i64 x.e,.int .u8 x.r,.int .i64 x.a,.int .u8 x.p,.int .i64 x.f,.int .i64 x.b]
def cp (x:Pm.Pg):Array Value:=#[.int .i64 x.e,.int .u8 x.r,.int .i64 x.a,.int .u8 x.p,.int .i64 x.f,.int .i64 x.b]
def vn (x:Pm.Pg):Value:=.agg #[.int .i64 x.e,.int .i64 x.r,.int .i64 x.a,.int .i64 x.p,.int .i64 x.f,.int .i64 x.b]
def gF (x:Pm.Pg):Prop:=-9223372036854775808≤x.e∧x.e<9223372036854775808∧0≤x.r∧x.r<256∧-9223372036854775808≤x.a∧x.a<9223372036854775808∧0≤x.p∧x.p<256∧-9223372036854775808≤x.f∧x.f<9223372036854775808∧-9223372036854775808≤x.b∧x.b<9223372036854775808
theorem aaO {x:Pm.Pg}(h:Pm.Ok x):gF x:=by
 have:=Pm.jm h
 unfold gF
 omega
structure Six (w:World) (g:Nat) (a b c d e f:Value):Prop where
 c0:w.cell? ⟨g,0,none⟩=some a
 c1:w.cell? ⟨g,1,none⟩=some b
 c2:w.cell? ⟨g,2,none⟩=some c
 c3:w.cell? ⟨g,3,none⟩=some d
 c4:w.cell? ⟨g,4,none⟩=some e
 c5:w.cell? ⟨g,5,none⟩=some f
theorem aR {w:World}{g:Nat}{t:TypeId}{fr:Nat×Nat}{a b c d e f:Value}(h:w.heap[g]? =some (.cells #[a,b,c,d,e,f] t fr)):Six w g a b c d e f:=
 ⟨ai h 0 rfl,ai h 1 rfl,ai h 2 rfl,ai h 3 rfl,ai h 4 rfl,ai h 5 rfl⟩
theorem fq {V:World}{R:Nat}{t:TypeId}{x0 x1 x2 x3 x4 x5:Value}(hR:V.heap[R]? =some (.cells #[x0,x1,x2,x3,x4,x5] t (0,0)))(a b c d e f:Value):
  ∃V',(((((V.setCell ⟨R,0,none⟩ a).setCell ⟨R,1,none⟩ b).setCell ⟨R,2,none⟩ c).setCell ⟨R,3,none⟩ d).setCell ⟨R,4,none⟩ e).setCell ⟨R,5,none⟩ f=V'∧V'.heap[R]? =some (.cells #[a,b,c,d,e,f] t (0,0))∧V.grownBy V' (some R)∧
   Six V R x0 x1 x2 x3 x4 x5∧(∀j,V.frozen? ⟨R,j,none⟩=false)∧Six V' R a b c d e f:=by
 have h:=aG (aG (aG (aG (aG (aG hR 0 a) 1 b) 2 c) 3 d) 4 e) 5 f
 refine⟨_,rfl,h,?_,aR hR,aB hR,aR h⟩
 exact aI (aI (aI (aI (aI (ax V ⟨R,0,none⟩ a) (ax _ ⟨R,1,none⟩ b)) (ax _ ⟨R,2,none⟩ c)) (ax _ ⟨R,3,none⟩ d)) (ax _ ⟨R,4,none⟩ e)) (ax _ ⟨R,5,none⟩ f)
theorem wo (w:World)(t:TypeId)(x0 x1 x2 x3 x4 x5 a b c d e f:Value):
  ∃V,((((((w.alloc (.cells #[x0,x1,x2,x3,x4,x5] t)).setCell ⟨w.heap.size,0,none⟩ a).setCell ⟨w.heap.size,1,none⟩ b).setCell ⟨w.heap.size,2,none⟩ c).setCell ⟨w.heap.size,3,none⟩ d).setCell ⟨w.heap.size,4,none⟩ e).setCell ⟨w.heap.size,5,none⟩ f=V∧w.alloc (.cells #[a,b,c,d,e,f] t)=V∧V.heap.size=w.heap.size+1∧Below w.heap.size w V∧V.heap[w.heap.size]? =some (.cells #[a,b,c,d,e,f] t (0,0))∧Six V w.heap.size a b c d e f:=by
 obtain⟨V,h1,h2,h3,h4⟩:=au w #[a,b,c,d,e,f] t
 refine⟨V,?_,h1,h2,h3,h4,aR h4⟩
 rw[←h1]
 simp[go_sem]
def fst (n:Int):Pm.Pg:=if n=0 then⟨1,1,0,0,0,0⟩else if n=1 then⟨1,2,0,0,0,0⟩else Pm.no
def fse (n:Int):Int:=if n=0 then 0 else if n=1 then 0 else 2
theorem acQ (n:Int)(w:World):
  Calls Tryz.prog 172 #[.int .i64 n] w fun E w'=>E=.returned (.tuple #[vp (fst n),.int .i64 (fse n)])∧Below w.heap.size w w':=by
 obtain⟨w1,hw1,aT,ak,hB⟩:=au w #[.int .i64 0,.int .u8 0,.int .i64 0,.int .u8 0,.int .i64 0,.int .i64 0] 46
 unfold fst fse vp
 go_enter Tryz.func172,Tryz.ntmps172
 by_cases h0:n=0
 ·have h0':(n==0)=true:=by simp[h0]
  rw[if_pos h0,if_pos h0]
  obtain⟨V,hV,bV,gV,⟨a0,a1,a2,a3,a4,a5⟩,fr,⟨z0,z1,z2,z3,z4,z5⟩⟩:=fq hB (.int .i64 1) (.int .u8 1) (.int .i64 0) (.int .u8 0) (.int .i64 0) (.int .i64 0)
  have f0:=fr 0;have f1:=fr 1;have f2:=fr 2;have f3:=fr 3;have f4:=fr 4;have f5:=fr 5
  have aK:=aF ak gV (Nat.le_refl _) (by omega)
  clear h0 hB bV gV fr ak
  go_wp2
  refine bodyPost_ret (v:=.tuple #[.agg #[.int .i64 1,.int .u8 1,.int .i64 0,.int .u8 0,.int .i64 0,.int .i64 0],.int .i64 0]) (by simp[results,Tryz.results172,go_sem,z0,z1,z2,z3,z4,z5]) rfl ?_
  exact⟨rfl,aK⟩
 ·have h0':(n==0)=false:=by simp[h0]
  rw[if_neg h0,if_neg h0]
  by_cases h1:n=1
  ·have h1':(n==1)=true:=by simp[h1]
   rw[if_pos h1,if_pos h1]
   obtain⟨V,hV,bV,gV,⟨a0,a1,a2,a3,a4,a5⟩,fr,⟨z0,z1,z2,z3,z4,z5⟩⟩:=fq hB (.int .i64 1) (.int .u8 2) (.int .i64 0) (.int .u8 0) (.int .i64 0) (.int .i64 0)
   have f0:=fr 0;have f1:=fr 1;have f2:=fr 2;have f3:=fr 3;have f4:=fr 4;have f5:=fr 5
   have aK:=aF ak gV (Nat.le_refl _) (by omega)
   clear h0 h1 hB bV gV fr ak
   go_wp2
   refine bodyPost_ret (v:=.tuple #[.agg #[.int .i64 1,.int .u8 2,.int .i64 0,.int .u8 0,.int .i64 0,.int .i64 0],.int .i64 0]) (by simp[results,Tryz.results172,go_sem,z0,z1,z2,z3,z4,z5]) rfl ?_
   exact⟨rfl,aK⟩
  ·have h1':(n==1)=false:=by simp[h1]
   rw[if_neg h1,if_neg h1]
   obtain⟨V,hV,bV,gV,⟨a0,a1,a2,a3,a4,a5⟩,fr,⟨z0,z1,z2,z3,z4,z5⟩⟩:=fq hB (.int .i64 0) (.int .u8 0) (.int .i64 0) (.int .u8 0) (.int .i64 0) (.int .i64 0)
   have f0:=fr 0;have f1:=fr 1;have f2:=fr 2;have f3:=fr 3;have f4:=fr 4;have f5:=fr 5
   have aK:=aF ak gV (Nat.le_refl _) (by omega)
   clear h0 h1 hB bV gV fr ak
   go_wp2
   refine bodyPost_ret (v:=.tuple #[.agg #[.int .i64 0,.int .u8 0,.int .i64 0,.int .u8 0,.int .i64 0,.int .i64 0],.int .i64 2]) (by simp[results,Tryz.results172,go_sem,z0,z1,z2,z3,z4,z5]) rfl ?_
   exact⟨rfl,aK⟩
theorem ad1 (z:Int)(h0:0≤z)(h1:z<256):IntKind.i64.wrap z=z:=aS z (by omega) (by omega)
theorem uk (x:Pm.Pg)(w:World)(hx:gF x):
  Calls Tryz.prog 136 #[vp x] w fun E w'=>E=.returned (vn x)∧Below w.heap.size w w':=by
 unfold vp vn
 obtain⟨g1,g2,g3,g4,g5,g6,g7,g8,g9,g10,g11,g12⟩:=hx
 obtain⟨w1,hw1,aT,ak,hB⟩:=au w #[.int .i64 x.e,.int .u8 x.r,.int .i64 x.a,.int .u8 x.p,.int .i64 x.f,.int .i64 x.b] 46
 obtain⟨w2,hw2,dm,az,hC⟩:=au w1 #[.int .i64 0,.int .i64 0,.int .i64 0,.int .i64 0,.int .i64 0,.int .i64 0] 190
 obtain⟨c0,c1,c2,c3,c4,c5⟩:=aR ((az.block _ (aA hB)).trans hB)
 rw[aT]at hC
 obtain⟨V,hV,bV,gV,⟨a0,a1,a2,a3,a4,a5⟩,fr,⟨z0,z1,z2,z3,z4,z5⟩⟩:=fq hC (.int .i64 x.e) (.int .i64 x.r) (.int .i64 x.a) (.int .i64 x.p) (.int .i64 x.f) (.int .i64 x.b)
 have f0:=fr 0;have f1:=fr 1;have f2:=fr 2;have f3:=fr 3;have f4:=fr 4;have f5:=fr 5
 have aK:=aF (ak.trans (az.mono (by omega))) gV (by omega) (by omega)
 have e1:=ad1 x.r g3 g4
 have e2:=ad1 x.p g7 g8
 clear hB hC bV gV fr ak az
 go_enter Tryz.func136,Tryz.ntmps136
 go_wp2
 refine bodyPost_ret (v:=.agg #[.int .i64 x.e,.int .i64 x.r,.int .i64 x.a,.int .i64 x.p,.int .i64 x.f,.int .i64 x.b]) (by simp[results,Tryz.results136,go_sem,z0,z1,z2,z3,z4,z5]) rfl ?_
 exact⟨rfl,aK⟩
def same (x y:Pm.Pg):Bool:=x.e==y.e&&x.r==y.r&&x.a==y.a&&x.p==y.p&&x.f==y.f&&x.b==y.b
theorem Tryz.aiL (a b c d e f a' b' c' d' e' f':Int)(w:World):(binOp .eql 46 (.agg #[.int .i64 a,.int .u8 b,.int .i64 c,.int .u8 d,.int .i64 e,.int .i64 f]) (.agg #[.int .i64 a',.int .u8 b',.int .i64 c',.int .u8 d',.int .i64 e',.int .i64 f'])).run Tryz.prog w=.ok (.bool (a==a'&&b==b'&&c==c'&&d==d'&&e==e'&&f==f')) w:=by
 rw[run_eql_struct,run_equalIn_agg w 9999 46 _ _ (by kernel_rfl) (by kernel_rfl)]
 unfold Program.fieldsOf
 rw[Tryz.underlying46]
 simp[Op.eqFields,go_sem,Tryz.underlying23,Tryz.underlying44,Tryz.underlying3]
 by_cases h1:a=a'<;>by_cases h2:b=b'<;>by_cases h3:c=c'<;>by_cases h4:d=d'<;>by_cases h5:e=e'<;>by_cases h6:f=f'<;>simp[h1,h2,h3,h4,h5,h6]
def dQ (q:Nat) (off:Bool) (x:Pm.Pg) (vw:Value) (en:Int) (vr vs:Value):Array Value:=#[.pointer (some ⟨q,0,none⟩),.bool off,.int .i64 x.e,.int .u8 x.r,.int .i64 x.a,.int .u8 x.p,.int .i64 x.f,.int .i64 x.b,vw,.int .i64 en,.slice none 0 0,vr,vs]
def iW (x:Pm.Pg) (ep en rn:Int) (p:Nat):Array Value:=#[.int .i64 x.e,.int .u8 x.r,.int .i64 x.a,.int .u8 x.p,.int .i64 x.f,.int .i64 x.b,.int .i64 ep,.int .i64 en,.int .i64 rn,.func (.func 180) #[.pointer (some ⟨p,0,none⟩)] #[]]
structure Ten (w:World) (g:Nat) (a b c d e f h i j k:Value):Prop where
 c0:w.cell? ⟨g,0,none⟩=some a
 c1:w.cell? ⟨g,1,none⟩=some b
 c2:w.cell? ⟨g,2,none⟩=some c
 c3:w.cell? ⟨g,3,none⟩=some d
 c4:w.cell? ⟨g,4,none⟩=some e
 c5:w.cell? ⟨g,5,none⟩=some f
 c6:w.cell? ⟨g,6,none⟩=some h
 c7:w.cell? ⟨g,7,none⟩=some i
 c8:w.cell? ⟨g,8,none⟩=some j
 c9:w.cell? ⟨g,9,none⟩=some k
theorem ng {w:World}{g:Nat}{t:TypeId}{fr:Nat×Nat}{a b c d e f h i j k:Value}(hg:w.heap[g]? =some (.cells #[a,b,c,d,e,f,h,i,j,k] t fr)):Ten w g a b c d e f h i j k:=
 ⟨ai hg 0 rfl,ai hg 1 rfl,ai hg 2 rfl,ai hg 3 rfl,ai hg 4 rfl,ai hg 5 rfl,ai hg 6 rfl,ai hg 7 rfl,ai hg 8 rfl,ai hg 9 rfl⟩
theorem adB {V:World}{R:Nat}{t:TypeId}{x0 x1 x2 x3 x4 x5 x6 x7 x8 x9:Value}(hR:V.heap[R]? =some (.cells #[x0,x1,x2,x3,x4,x5,x6,x7,x8,x9] t (0,0)))(a b c d e f h i j k:Value):
  ∃V',(((((((((V.setCell ⟨R,0,none⟩ a).setCell ⟨R,1,none⟩ b).setCell ⟨R,2,none⟩ c).setCell ⟨R,3,none⟩ d).setCell ⟨R,4,none⟩ e).setCell ⟨R,5,none⟩ f).setCell ⟨R,6,none⟩ h).setCell ⟨R,7,none⟩ i).setCell ⟨R,8,none⟩ j).setCell ⟨R,9,none⟩ k=V'∧V'.heap[R]? =some (.cells #[a,b,c,d,e,f,h,i,j,k] t (0,0))∧V.grownBy V' (some R)∧
   Ten V R x0 x1 x2 x3 x4 x5 x6 x7 x8 x9∧(∀j,V.frozen? ⟨R,j,none⟩=false)∧Ten V' R a b c d e f h i j k:=by
 have q0:(V.setCell ⟨R,0,none⟩ a).heap[R]? =some (.cells #[a,x1,x2,x3,x4,x5,x6,x7,x8,x9] t (0,0)):=aG hR 0 a
 have q1:((V.setCell ⟨R,0,none⟩ a).setCell ⟨R,1,none⟩ b).heap[R]? =some (.cells #[a,b,x2,x3,x4,x5,x6,x7,x8,x9] t (0,0)):=aG q0 1 b
 have q2:(((V.setCell ⟨R,0,none⟩ a).setCell ⟨R,1,none⟩ b).setCell ⟨R,2,none⟩ c).heap[R]? =some (.cells #[a,b,c,x3,x4,x5,x6,x7,x8,x9] t (0,0)):=aG q1 2 c
 have q3:((((V.setCell ⟨R,0,none⟩ a).setCell ⟨R,1,none⟩ b).setCell ⟨R,2,none⟩ c).setCell ⟨R,3,none⟩ d).heap[R]? =some (.cells #[a,b,c,d,x4,x5,x6,x7,x8,x9] t (0,0)):=aG q2 3 d
 have q4:(((((V.setCell ⟨R,0,none⟩ a).setCell ⟨R,1,none⟩ b).setCell ⟨R,2,none⟩ c).setCell ⟨R,3,none⟩ d).setCell ⟨R,4,none⟩ e).heap[R]? =some (.cells #[a,b,c,d,e,x5,x6,x7,x8,x9] t (0,0)):=aG q3 4 e
 have q5:((((((V.setCell ⟨R,0,none⟩ a).setCell ⟨R,1,none⟩ b).setCell ⟨R,2,none⟩ c).setCell ⟨R,3,none⟩ d).setCell ⟨R,4,none⟩ e).setCell ⟨R,5,none⟩ f).heap[R]? =some (.cells #[a,b,c,d,e,f,x6,x7,x8,x9] t (0,0)):=aG q4 5 f
 have q6:(((((((V.setCell ⟨R,0,none⟩ a).setCell ⟨R,1,none⟩ b).setCell ⟨R,2,none⟩ c).setCell ⟨R,3,none⟩ d).setCell ⟨R,4,none⟩ e).setCell ⟨R,5,none⟩ f).setCell ⟨R,6,none⟩ h).heap[R]? =some (.cells #[a,b,c,d,e,f,h,x7,x8,x9] t (0,0)):=aG q5 6 h
 have q7:((((((((V.setCell ⟨R,0,none⟩ a).setCell ⟨R,1,none⟩ b).setCell ⟨R,2,none⟩ c).setCell ⟨R,3,none⟩ d).setCell ⟨R,4,none⟩ e).setCell ⟨R,5,none⟩ f).setCell ⟨R,6,none⟩ h).setCell ⟨R,7,none⟩ i).heap[R]? =some (.cells #[a,b,c,d,e,f,h,i,x8,x9] t (0,0)):=aG q6 7 i
 have q8:(((((((((V.setCell ⟨R,0,none⟩ a).setCell ⟨R,1,none⟩ b).setCell ⟨R,2,none⟩ c).setCell ⟨R,3,none⟩ d).setCell ⟨R,4,none⟩ e).setCell ⟨R,5,none⟩ f).setCell ⟨R,6,none⟩ h).setCell ⟨R,7,none⟩ i).setCell ⟨R,8,none⟩ j).heap[R]? =some (.cells #[a,b,c,d,e,f,h,i,j,x9] t (0,0)):=aG q7 8 j
 have hx:((((((((((V.setCell ⟨R,0,none⟩ a).setCell ⟨R,1,none⟩ b).setCell ⟨R,2,none⟩ c).setCell ⟨R,3,none⟩ d).setCell ⟨R,4,none⟩ e).setCell ⟨R,5,none⟩ f).setCell ⟨R,6,none⟩ h).setCell ⟨R,7,none⟩ i).setCell ⟨R,8,none⟩ j).setCell ⟨R,9,none⟩ k).heap[R]? =some (.cells #[a,b,c,d,e,f,h,i,j,k] t (0,0)):=aG q8 9 k
 refine⟨_,rfl,hx,?_,ng hR,aB hR,ng hx⟩
 have g6:=aI (aI (aI (aI (aI (ax V ⟨R,0,none⟩ a) (ax _ ⟨R,1,none⟩ b)) (ax _ ⟨R,2,none⟩ c)) (ax _ ⟨R,3,none⟩ d)) (ax _ ⟨R,4,none⟩ e)) (ax _ ⟨R,5,none⟩ f)
 exact aI (aI (aI (aI g6 (ax _ ⟨R,6,none⟩ h)) (ax _ ⟨R,7,none⟩ i)) (ax _ ⟨R,8,none⟩ j)) (ax _ ⟨R,9,none⟩ k)
structure StA (p:Nat) (w:World) (q:Nat) (off:Bool) (x:Pm.Pg) (vw:Value) (en:Int) (vr vs:Value):Prop where
 c0:w.cell? ⟨p,0,none⟩=some (.pointer (some ⟨q,0,none⟩))
 c1:w.cell? ⟨p,1,none⟩=some (.bool off)
 c2:w.cell? ⟨p,2,none⟩=some (.int .i64 x.e)
 c3:w.cell? ⟨p,3,none⟩=some (.int .u8 x.r)
 c4:w.cell? ⟨p,4,none⟩=some (.int .i64 x.a)
 c5:w.cell? ⟨p,5,none⟩=some (.int .u8 x.p)
 c6:w.cell? ⟨p,6,none⟩=some (.int .i64 x.f)
 c7:w.cell? ⟨p,7,none⟩=some (.int .i64 x.b)
 c8:w.cell? ⟨p,8,none⟩=some vw
 c9:w.cell? ⟨p,9,none⟩=some (.int .i64 en)
 c10:w.cell? ⟨p,10,none⟩=some (.slice none 0 0)
 c11:w.cell? ⟨p,11,none⟩=some vr
 c12:w.cell? ⟨p,12,none⟩=some vs
theorem mM {p q:Nat}{w:World}{t:TypeId}{fr:Nat×Nat}{off:Bool}{x:Pm.Pg}{vw vr vs:Value}{en:Int}(h:w.heap[p]? =some (.cells (dQ q off x vw en vr vs) t fr)):StA p w q off x vw en vr vs:=
 ⟨ai h 0 rfl,ai h 1 rfl,ai h 2 rfl,ai h 3 rfl,ai h 4 rfl,ai h 5 rfl,ai h 6 rfl,ai h 7 rfl,ai h 8 rfl,ai h 9 rfl,ai h 10 rfl,ai h 11 rfl,ai h 12 rfl⟩
theorem tC {l:List Dm.Rw}{k:Nat}{r:Dm.Rw}(h:l[k]? =some r):l.take (k+1)=l.take k++[r]:=by
 obtain⟨hk,rfl⟩:=List.getElem?_eq_some_iff.1 h
 exact List.take_succ_eq_append_getElem hk
theorem acJ:∀(l:List Dm.Rw) (k:Nat),Dm.fP (l.take k)≤Dm.fP l
 |[],k=>by simp[Dm.fP]
 |r::l,0=>by simp[Dm.fP]
 |r::l,k+1=>by
  have:=acJ l k
  simp only[List.take_succ_cons,Dm.fP]
  omega
theorem agz {l:List Dm.Rw}{k:Nat}{r:Dm.Rw}(h:l[k]? =some r):Dm.fP (l.take k)+r.bytes.length≤Dm.fP l:=by
 have h1:=acJ l (k+1)
 rw[tC h,Dm.zq]at h1
 simp only[Dm.fP]at h1
 omega
theorem akd {l:List Dm.Rw}{k:Nat}{r:Dm.Rw}(h:l[k]? =some r)(f:Nat)(b:List Int):Dm.hold f b (l.take (k+1))=if r.file=f then Dm.iT (Dm.hold f b (l.take k)) r else Dm.hold f b (l.take k):=by
 rw[tC h,Dm.qC]
theorem Tryz.aiN:Tryz.prog.underlying 61=some (.slice (Tryz.prog.elem 61)):=by kernel_rfl
theorem Tryz.aia (wx:World):(sizeOf (Tryz.prog.elem 61)).run Tryz.prog wx=.ok 1 wx:=by kernel_rfl
def jB (bs:List Int) (most a:Nat) (bad:Bool) (u a':Nat) (bad':Bool):Prop:=
 (bad=true∧bad'=true∧u=0∧a'=a)∨(bad=false∧bad'=true∧u=0∧a'=a∧∀x:Nat,x≤most→¬Vm.enc x<+:bs.drop a)∨(bad=false∧bad'=false∧u≤most∧Vm.enc u<+:bs.drop a∧a'=a+Vm.sz u)
end Go.Proofs.YtlmkaljjocflmaaGreatDoor
