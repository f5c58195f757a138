/- Texts. -/
import Derived.Test.YtlmkaljjocflmaaGreatDoorBH1
import Derived.Test.YtlmkaljjocflmaaGreatDoorBG1
import Derived.Lib.AppendZeros
import Derived.Test.YtlmkaljjocflmaaGreatDoorBG2
import Derived.Test.YtlmkaljjocflmaaGreatDoorProg
import Derived.Lib.Strings
import Derived.Lib.AppendStr
import Derived.Lib.UnsafeStr
set_option maxRecDepth 100000
set_option maxHeartbeats 8000000
set_option linter.unusedVariables false
open Go.Proofs.Tryz
namespace Go.Proofs.YtlmkaljjocflmaaGreatDoor
open Go.RowKit
theorem ald {y:Int}{n m:Nat}(h0:0≤y)(hs:Vm.sz y.toNat+n=m+1)(h:(y / 128==0)=true):(n:Int)=m:=by
 have h:=beq_iff_eq.1 h
 have:=Vm.iD (x:=y.toNat) (by omega)
 omega
theorem akY {y:Int}{n m:Nat}(h0:0≤y)(hs:Vm.sz y.toNat+n=m+1)(hm:m≤10)(h:(y / 128==0)=false):
  Vm.sz (y / 128).toNat+(n+1)=m+1∧n+1≤10∧(y / 128).toNat<y.toNat:=by
 have h:=beq_eq_false_iff_ne.1 h
 have:=Vm.aeN (x:=y.toNat) (by omega)
 have e:(y / 128).toNat=y.toNat / 128:=by omega
 have:=Vm.yj (y / 128).toNat
 rw[e]at*
 omega
theorem aeR (x:Int)(w:World)(h0:0≤x)(h1:x<18446744073709551616):
  Calls prog 207 #[.int .u64 x] w fun e w'=>e=.returned (.int .i64 (Vm.sz x.toNat))∧w=w':=by
 have hm:=Vm.lY (x:=x.toNat) (by omega)
 go_enter func207,ntmps207
 go_wp2
 go_loop [0,3] (fun xx nn=>∃(y:Int) (n:Nat),0≤y∧y<18446744073709551616∧1≤n∧n≤10∧xx=.int .u64 y∧nn=.int .i64 n∧Vm.sz y.toNat+n=Vm.sz x.toNat+1) (fun xx _=>(intOf xx).toNat)
 case atStart=>exact⟨x,1,h0,h1,by omega,by omega,rfl,rfl,rfl⟩
 case round=>
  obtain⟨y,n,hy0,hy1,hn0,hn1,rfl,rfl,hs⟩:=hrel
  have HS:Hid (Vm.sz y.toNat+n=Vm.sz x.toNat+1):=hs
  clear hs
  go_wp2
  ·have hb:(y / 128==0)=true:=by assumption
   go_ret
   exact⟨jh (ald hy0 HS.out hb),rfl⟩
  ·have hb:(y / 128==0)=false:=by assumption
   have R:=akY hy0 HS.out hm hb
   go_round
   case rel=>exact⟨y / 128,n+1,by omega,by omega,by omega,R.2.1,rfl,by go_num,R.1⟩
   case measure=>simp[intOf];omega
theorem gL (vb:Value)(bs:List Int)(x:Int)(w:World)(hb:Is .u8 w vb bs)(hlb:bs.length≤140737488351232)(h0:0≤x)(h1:x<18446744073709551616):
  Calls prog 155 #[vb,.int .u64 x] w fun e w'=>∃v,e=.returned v∧Own .u8 5 w.heap.size w' v (bs++Vm.enc x.toNat)∧Bq w w':=by
 have hm:=Vm.lY (x:=x.toNat) (by omega)
 obtain⟨ao,cap,hv⟩:∃ao cap,vb=.slice ao bs.length cap:=by
  rcases hb.2 with⟨h,e⟩|⟨ad,cap,hv,_⟩
  ·subst e;exact⟨none,0,h⟩
  ·exact⟨some ad,cap,hv⟩
 subst hv
 obtain⟨i0,hi,hz0,hz1,hz2⟩:=info_parts Tryz.info5
 go_enter func155,ntmps155
 go_wp2_with (first|(go_at_call 207;refine(aeR x _ h0 h1).mono ?_;rintro e w' ⟨rfl,rfl⟩)|(at_make;refine wpList_make_own _ rfl _ _ 61 rfl w.heap.size 5 i0 (.int .u8 0) 1 underlying61 hi hz0 hz1 _ _ _ (bs.length+Vm.sz x.toNat) rfl rfl (by omega) ?b2 ?b3 (Nat.le_refl _) ?_))
 case b2=>rw[hz2];omega
 case b3=>unfold maxLen;omega
 intro w0 hown0 alr
 have dh:Bq w w0:=(Below.refl _ _).grown alr (Nat.le_refl _) (by simp)
 have aeU:Own .u8 5 w.heap.size w0 (.slice (some ⟨w.heap.size,0,none⟩) 0 (bs.length+Vm.sz x.toNat)) []:=⟨by simp,hown0⟩
 have zX:=hb.below dh
 have rP:=dh.size
 clear hown0 alr
 go_wp2_with (at_builtin;refine df rfl (.tmp 12) (.tmp 13) 61 rfl .u8 5 w.heap.size 1 underlying61 Tryz.info5 (by decide) _ [] rfl aeU _ bs rfl zX (by simp;omega) rP ?_)
 intro v1 w1 aX aj _
 have aI:=dh.trans aj
 clear aeU zX dh aj rP
 go_wp2
 go_loopw [1,5] (fun xx vv wr=>∃(y:Int) (zs:List Int),0≤y∧y<18446744073709551616∧xx=.int .u64 y∧zs.length≤140737488351242∧Own .u8 5 w.heap.size wr vv zs∧zs++Vm.enc y.toNat=bs++Vm.enc x.toNat∧Bq w wr) (fun xx _ _=>(intOf xx).toNat)
 case atStart=>exact⟨x,bs,h0,h1,rfl,by omega,aX,rfl,aI⟩
 case round=>
  obtain⟨y,zs,hy0,hy1,rfl,hl,own,heq,gP⟩:=hrel
  have HE:=hide heq
  clear heq aX aI
  have szr:=gP.size
  by_cases hy:y≤127
  ·have e1:y % 256=y:=by omega
   have W:=wf_u8 (z:=y) hy0 (by omega)
   go_wp2_with (at_builtin;refine df rfl (.tmp 17) (.tmp 20) 61 rfl .u8 5 w.heap.size 1 underlying61 Tryz.info5 (by decide) _ zs rfl (own.below ((Below.refl _ _).alloc (Nat.le_refl _) _)) _ [y] rfl (Is.one .u8 _ _ 5 W) (by simp;omega) (by simp;omega) ?_)
   intro v2 w2 aW az _
   go_wp2
   go_ret
   refine⟨_,rfl,?_,(gP.alloc szr _).trans az⟩
   rw[←HE.out,Vm.l8 (x:=y.toNat) (by omega),Int.toNat_of_nonneg hy0]
   exact aW
  ·have e1:=ajd y hy0 hy1
   have e2:y % 128 % 256=y % 128:=by omega
   have e3:=aoL (y % 128) (by omega) (by omega)
   have W:=wf_u8 (z:=y % 128+128) (by omega) (by omega)
   go_wp2_with (at_builtin;refine df rfl (.tmp 22) (.tmp 27) 61 rfl .u8 5 w.heap.size 1 underlying61 Tryz.info5 (by decide) _ zs rfl (own.below ((Below.refl _ _).alloc (Nat.le_refl _) _)) _ [y % 128+128] rfl (Is.one .u8 _ _ 5 W) (by simp;omega) (by simp;omega) ?_)
   intro v2 w2 aW az _
   have HE2:zs++[y % 128+128]++Vm.enc (y / 128).toNat=bs++Vm.enc x.toNat:=by
    rw[←HE.out,Vm.qD (x:=y.toNat) (by omega)]
    have:(y / 128).toNat=y.toNat / 128:=by omega
    have:((y.toNat % 128+128:Nat):Int)=y % 128+128:=by omega
    simp_all
   have HL:zs.length+1≤140737488351242:=by
    have:=congrArg List.length HE2
    have:=Vm.yj (y / 128).toNat
    simp at*
    unfold Vm.sz at*
    omega
   have HE3:=hide HE2
   have b3:=(gP.alloc szr _).trans az
   clear HE2 own e1 e2 e3
   go_wp2
   go_roundw
   case rel=>exact⟨y / 128,zs++[y % 128+128],by omega,by omega,rfl,by simp;omega,aW,HE3.out,b3⟩
   case measure=>simp[intOf];omega
theorem xY {x n e x' n' e':Int}(h:x=x'∧n=n'∧e=e'):Ending.returned (.tuple #[.int .u64 x',.int .i64 n',.int .i64 e'])=.returned (.tuple #[.int .u64 x,.int .i64 n,.int .i64 e]):=by
 obtain⟨rfl,rfl,rfl⟩:=h;rfl
theorem aar {bs:List Int}{x n e:Int}(hR:Vm.Res bs x n e){u k:Nat}(hu:u<18446744073709551616)(hp:Vm.enc u<+:bs)(hs:Vm.sz u=k+1):x=(u:Int)∧n=(k:Int)+1∧e=0:=by
 have:=Vm.qC hR hu hp
 omega
theorem uQ (vb:Value)(bs:List Int)(x n e:Int)(w:World)(hb:Is .u8 w vb bs)(hl:bs.length≤150000000000000)(hR:Vm.Res bs x n e):
  Calls prog 266 #[vb] w fun E w'=>E=.returned (.tuple #[.int .u64 x,.int .i64 n,.int .i64 e])∧w=w':=by
 by_cases hz:0<bs.length
 ·have hbyte:=fun i=>hb.byte i
  have HBY:=hide hbyte
  obtain⟨b1,o1,c1,rfl,_,_,hB1,hc1⟩:=hb.full hz
  have HC:=hide hc1
  clear hc1 hbyte hb
  go_enter func266,ntmps266
  go_wp2
  go_loop [2,3] (fun xx nn=>∃(acc:Nat) (k:Nat),k≤9∧k≤bs.length∧xx=.int .u64 acc∧nn=.int .i64 k∧Vm.Inv bs k acc) (fun _ nn=>10-(intOf nn).toNat)
  case atStart=>exact⟨0,0,by omega,by omega,rfl,rfl,Vm.am5 bs⟩
  case round=>
   obtain⟨acc,k,hk,hk2,rfl,rfl,hinv⟩:=hrel
   have HI:=hide hinv
   clear hinv
   by_cases hlt:k<bs.length
   ·have hq:((k:Int)==(bs.length:Int))=false:=by simp;omega
    have g1:=HC.out k hlt
    have hlt':(k:Int)<bs.length:=by omega
    have hc0:=HBY.out k
    generalize hcc:bs.getD k 0=c at*
    have o8:=hide hcc
    have h70:=amQ c hc0.1 hc0.2
    have h71:=acS (c % 128) (by omega) (by omega)
    clear hcc
    by_cases h9:k=9
    ·have h9':((k:Int)==9)=true:=by simp[h9]
     have H9:=hide h9
     have HI9:Hid (Vm.Inv bs 9 acc):=by have:=HI.out;rw[h9]at this;exact this
     have HC9:Hid (bs.getD 9 0=c):=by have:=o8.out;rw[h9]at this;exact this
     clear h9
     by_cases hc1:1<c
     ·go_wp2
      go_ret3
      exact⟨xY (Vm.uo hR (Vm.aq4 HI9.out (by rw[←H9.out];exact hlt) HC9.out hc1 hc0.2)),rfl⟩
     ·have hfit:acc+(c % 128).toNat*128 ^ k<18446744073709551616:=by rw[H9.out];exact Vm.ane HI9.out hc0.1 (by omega)
      have e1:=afo acc k (c % 128) (by omega) HI.out.1 hfit
      generalize hna:acc+(c % 128).toNat*128 ^ k=na at*
      have HNA:=hide hna
      clear hna
      have hk1:1≤k:=by have:=H9.out;omega
      have axQ:1<(k:Int)+1:=by omega
      by_cases hcz:c=0
      ·have apI:(c==0)=true:=by simp[hcz]
       have HZ:=hide hcz
       clear hcz
       go_wp2
       go_ret3
       exact⟨xY (Vm.uo hR (Vm.inv_zero HI.out hlt (o8.out.trans HZ.out) hk1)),rfl⟩
      ·have apI:(c==0)=false:=by simp[hcz]
       have G:=hide (Vm.acB HI.out hlt o8.out hc0.1 (by omega) (.inl (by omega)))
       go_wp2
       go_ret3
       have G:=G.out
       rw[HNA.out]at G
       exact⟨xY (aar hR hfit G.1 G.2),rfl⟩
    ·have h9':((k:Int)==9)=false:=by simp;omega
     have hfit:=Vm.aqG HI.out (c:=c) (by omega) hc0.1
     have e1:=afo acc k (c % 128) (by omega) HI.out.1 hfit
     generalize hna:acc+(c % 128).toNat*128 ^ k=na at*
     have HNA:=hide hna
     clear hna
     by_cases h128:c≤127
     ·by_cases hk1:1≤k
      ·have axQ:1<(k:Int)+1:=by omega
       by_cases hcz:c=0
       ·have apI:(c==0)=true:=by simp[hcz]
        have HZ:=hide hcz
        clear hcz
        go_wp2
        go_ret3
        exact⟨xY (Vm.uo hR (Vm.inv_zero HI.out hlt (o8.out.trans HZ.out) hk1)),rfl⟩
       ·have apI:(c==0)=false:=by simp[hcz]
        have G:=hide (Vm.acB HI.out hlt o8.out hc0.1 (by omega) (.inl (by omega)))
        go_wp2
        go_ret3
        have G:=G.out
        rw[HNA.out]at G
        exact⟨xY (aar hR hfit G.1 G.2),rfl⟩
      ·have axQ:¬1<(k:Int)+1:=by omega
       have G:=hide (Vm.acB HI.out hlt o8.out hc0.1 (by omega) (.inr (by omega)))
       go_wp2
       go_ret3
       have G:=G.out
       rw[HNA.out]at G
       exact⟨xY (aar hR hfit G.1 G.2),rfl⟩
     ·go_wp2
      go_round
      case rel=>exact⟨na,k+1,by omega,by omega,rfl,by go_num,by have:=Vm.apb HI.out hlt o8.out (by omega) hc0.2;rw[HNA.out]at this;exact this⟩
      case measure=>simp[intOf];omega
   ·have hq:((k:Int)==(bs.length:Int))=true:=by simp;omega
    go_wp2
    go_ret3
    exact⟨xY (Vm.uo hR (Vm.alE HI.out (by omega))),rfl⟩
 ·have hx:bs=[]:=List.eq_nil_of_length_eq_zero (by omega)
  subst hx
  obtain⟨a1,c1,rfl⟩:=hb.bare
  clear hb hl hz
  go_enter func266,ntmps266
  go_wp2
  refine wp_loop_rounds 1 ?_
  rw[rounds_succ]
  go_wp2
  go_ret3
  exact⟨xY (Vm.uo hR (fun u _=>Vm.pre_nil u)),rfl⟩
def aaJ (bs:List Int) (most u i g:Int):Prop:=
 (Vm.Res bs u i 0∧0≤most∧u≤most∧g=0)∨(u=0∧i=0∧g=5∧∃x n e,Vm.Res bs x n e∧(e=5∨(e=0∧(most<0∨(0≤most∧most<x)))))
theorem uk (bs:List Int)(most:Int):∃u i g,aaJ bs most u i g:=by
 obtain⟨x,n,e,hR⟩:=Vm.ayN bs
 have hb:=Vm.kG hR
 by_cases h:e=0∧0≤most∧x≤most
 ·obtain⟨rfl,h1,h2⟩:=h
  exact⟨x,n,0,.inl ⟨hR,h1,h2,rfl⟩⟩
 ·exact⟨0,0,5,.inr ⟨rfl,rfl,rfl,x,n,e,hR,by omega⟩⟩
theorem lS (vb:Value)(bs:List Int)(most u i g:Int)(w:World)(hb:Is .u8 w vb bs)(hl:bs.length≤150000000000000)(hm:most<9223372036854775808)(hm':-9223372036854775808≤most)(hS:aaJ bs most u i g):
  Calls prog 203 #[vb,.int .i64 most] w fun E w'=>E=.returned (.tuple #[.int .i64 u,.int .i64 i,.int .i64 g])∧w=w':=by
 rcases hS with⟨hR,h0,h1,hg⟩|⟨hu,hi,hg,x,n,e,hR,hcase⟩
 ·have hbd:=Vm.kG hR
  have hq:((0:Int) !=0)=false:=by simp
  subst hg
  go_enter func203,ntmps203
  go_wp2_with (go_at_call 266;refine(uQ _ _ _ _ _ _ hb hl hR).mono ?_;rintro E w1 ⟨rfl,rfl⟩)
  go_ret3
  exact⟨rfl,rfl⟩
 ·have hbd:=Vm.kG hR
  subst hu hi hg
  rcases hcase with he|⟨he,h|⟨h,h'⟩⟩
  ·subst he
   go_enter func203,ntmps203
   go_wp2_with (go_at_call 266;refine(uQ _ _ _ _ _ _ hb hl hR).mono ?_;rintro E w1 ⟨rfl,rfl⟩)
   go_ret3
   exact⟨rfl,rfl⟩
  ·subst he
   go_enter func203,ntmps203
   go_wp2_with (go_at_call 266;refine(uQ _ _ _ _ _ _ hb hl hR).mono ?_;rintro E w1 ⟨rfl,rfl⟩)
   go_ret3
   exact⟨rfl,rfl⟩
  ·subst he
   go_enter func203,ntmps203
   go_wp2_with (go_at_call 266;refine(uQ _ _ _ _ _ _ hb hl hR).mono ?_;rintro E w1 ⟨rfl,rfl⟩)
   go_ret3
   exact⟨rfl,rfl⟩
theorem Tryz.aAo:prog.underlying 3=some (.int .i64):=by kernel_rfl
theorem aob (n:Nat):(Builtin.zeroCells (Value.int .u8 0).cells n).toList=(List.replicate n (0:Int)).map (Value.int .u8):=by
 apply List.ext_getElem?
 intro i
 simp[Builtin.zeroCells,Value.cells,List.getElem?_replicate]
 by_cases h:i<n<;>simp[h,Nat.mod_one]
theorem anB (w:World)(n:Nat)(h0:0<n)(h1:n≤150000000000000):Hid (∀ty,∃v' w',(Builtin.append_ #[61,3] ty #[.slice none 0 0,.int .i64 n]).run prog w=.ok v' w'∧Own .u8 5 w.heap.size w' v' (List.replicate n 0)∧Bq w w'):=by
 obtain⟨i,hi,hz,hsize,hb⟩:=info_parts Tryz.info5
 refine hide fun ty=>⟨_,_,Lib.run_append_nil_zeros w 61 3 ty 5 i (.int .u8 0) .i64 .i64 underlying61 Tryz.aAo hi hz n h0 (by omega) (by omega) (by rw[hb];omega),?_,?_⟩
 ·refine⟨fun z hz=>?_,?_⟩
  ·rw[List.eq_of_mem_replicate hz];rfl
  ·rw[List.length_replicate]
   refine acn w (Value.int .u8 0).cells rfl _ n _ (by simp[Value.cells]) (grownCap_ge w n 0 _) (grownCap_le_maxLen w n 0 _ (by unfold maxLen;omega)) (Nat.le_refl _) _ ?_
   rw[←aob n]
 ·exact(Below.refl _ _).grown (xn w _ none) (Nat.le_refl _) (fun k hk=>by cases hk)
theorem zy {P:Program}{w:World}{ops:Array Oper}{rest:List Oper}{o:Oper}{a:Act}{Q:Exit→Act→World→Prop}(hgd:o.guard=none)(s x:Operand)(t tn:TypeId)(ho:o.op=.call {callee:=.builtin .append,args:=#[s,x],argTypes:=#[t,tn]})
  (v vx:Value) (hs:a.eval s=v) (hx:a.eval x=vx) {R:Value→World→Prop} (hrun:∀ty,∃v' w',(Builtin.append_ #[t,tn] ty #[v,vx]).run P w=.ok v' w'∧R v' w')
  (h:∀v' w',R v' w'→wpList P ops Q rest (a.put o.dst v') w'):wpList P ops Q (o::rest) a w:=by
 obtain⟨v',w',hr,hR⟩:=hrun o.type
 exact Lib.wpList_append_run w hgd s x t tn ho v vx hs hx v' w' hr (h v' w' hR)
theorem anP (n:Nat)(w:World)(h1:n≤150000000000000):
  Calls prog 298 #[.slice none 0 0,.int .i64 n] w fun E w'=>∃v',E=.returned v'∧Own .u8 5 w.heap.size w' v' []∧Bq w w':=by
 have hn0:¬(n:Int)<0:=by omega
 have e1:IntKind.i64.wrap ((n:Int)-0)=n:=by rw[aQ _ (by omega) (by omega)];omega
 have hsl:=(Own.nil .u8 5 w.heap.size w).is.kJ Tryz.lZ Tryz.nH 0 (by simp)
 by_cases h0:0<n
 ·have X:=anB w n h0 h1
  have hn1:(0:Int)<n:=by omega
  go_enter func298,ntmps298
  go_wp2_with (at_builtin;refine zy rfl (.tmp 20) (.tmp 21) 61 3 rfl _ _ rfl rfl X.out ?_)
  intro v2 w2 aW az
  obtain⟨vs,hvs,owns,_⟩:=aW.kJ Tryz.lZ Tryz.nH 0 (by omega)
  have az5:=hvs w2
  simp only[Int.natCast_zero]at az5
  clear X hvs hsl aW
  go_wp2
  go_ret
  exact⟨_,rfl,by simpa using owns,az⟩
 ·obtain rfl:n=0:=by omega
  clear e1
  go_enter func298,ntmps298
  go_wp2
  go_ret
  exact⟨_,rfl,Own.nil _ _ _ _,Below.refl _ _⟩
def flt:List Bw→List Int
 |[]=>[]
 |a::r=>a.l++flt r
theorem acm:∀r s:List Bw,flt (r++s)=flt r++flt s
 |[],s=>rfl
 |a::r,s=>by simp[flt,acm r s]
theorem afL {r:List Bw}{k:Nat}{a:Bw}(h:r[k]? =some a):flt (r.take (k+1))=flt (r.take k)++a.l:=by
 obtain⟨h1,h2⟩:=List.getElem?_eq_some_iff.1 h
 rw[List.take_succ_eq_append_getElem h1,acm,h2]
 simp[flt]
theorem anN (r:List Bw)(k:Nat):(flt (r.take k)).length≤(flt r).length:=by
 have:flt r=flt (r.take k)++flt (r.drop k):=by rw[←acm,List.take_append_drop]
 rw[this,List.length_append]
 omega
theorem ai5 (v:Value)(r:List Bw)(w:World)(h:aah w v r)(hr:r.length≤1000)(hl:(flt r).length≤150000000000000):
  Calls prog 248 #[v] w fun E w'=>∃v',E=.returned v'∧Own .u8 5 w.heap.size w' v' (flt r)∧Bq w w':=by
 obtain⟨ao,cap,hv,hcap,hcm⟩:=h.1.shape
 have H:=hide h
 subst hv
 clear h
 go_enter func248,ntmps248
 go_wp2
 go_loopw [3,11] (fun sv iv wr=>∃k:Nat,k≤r.length∧iv=.int .i64 k∧sv=.int .i64 (flt (r.take k)).length∧w=wr) (fun _ iv _=>r.length-(intOf iv).toNat)
 case atStart=>exact⟨0,by omega,rfl,rfl,rfl⟩
 case round=>
  obtain⟨k,hk,rfl,rfl,rfl⟩:=hrel
  by_cases hlt:k<r.length
  ·obtain⟨b,off,cq,dI,_,_,hB,hcell⟩:=H.out.full (by omega)
   simp only[Value.slice.injEq,true_and]at dI
   obtain⟨rfl,rfl⟩:=dI
   obtain⟨a,ha⟩:∃a,r[k]? =some a:=⟨r[k],by rw[List.getElem?_eq_getElem]⟩
   have e4:=hcell k a ha
   obtain⟨av,ac,hav,_,_⟩:=(H.out.2 a (List.mem_of_getElem? ha)).shape
   rw[hav]at e4
   have hlt':(k:Int)<r.length:=by omega
   have hn:=afL ha
   have hm:=anN r (k+1)
   have hn2:(flt (r.take (k+1))).length=(flt (r.take k)).length+a.l.length:=by rw[hn,List.length_append]
   have hn3:((flt (r.take (k+1))).length:Int)=((flt (r.take k)).length:Int)+(a.l.length:Int):=by omega
   generalize hq:(flt (r.take k)).length=q at*
   have e5:IntKind.i64.wrap ((q:Int)+(a.l.length:Int))=(q:Int)+a.l.length:=aQ _ (by omega) (by omega)
   have e6:¬(q:Int)+(a.l.length:Int)<0:=by omega
   have hk0:(0:Int)≤(k:Int):=by omega
   clear hcell hn hq hav ha
   go_wp2
   go_roundw
   case rel=>exact⟨k+1,by omega,by go_num,by rw[hn3],trivial⟩
   case measure=>simp[intOf];omega
  ·obtain rfl:k=r.length:=by omega
   rw[List.take_length]
   have hlt':¬(r.length:Int)<r.length:=by omega
   go_wp2_with fail
   refine(anP (flt r).length _ hl).mono ?_
   rintro E w1 ⟨v1,rfl,aX,aj⟩
   have H1:=hide (H.out.below aj)
   go_wp2
   go_loopw [6,27] (fun sv iv wr=>∃k:Nat,k≤r.length∧iv=.int .i64 k∧Own .u8 5 w.heap.size wr sv (flt (r.take k))∧Bq w wr) (fun _ iv _=>r.length-(intOf iv).toNat)
   case atStart=>exact⟨0,by omega,rfl,aX,aj⟩
   case round=>
    clear aX aj H1
    obtain⟨k,hk,rfl,own,aI⟩:=hrel
    have szr:=aI.size
    by_cases hlt:k<r.length
    ·have H2:=H.out.below aI
     obtain⟨b,off,cq,dI,_,_,hB,hcell⟩:=H2.full (by omega)
     simp only[Value.slice.injEq,true_and]at dI
     obtain⟨rfl,rfl⟩:=dI
     obtain⟨a,ha⟩:∃a,r[k]? =some a:=⟨r[k],by rw[List.getElem?_eq_getElem]⟩
     have e4:=hcell k a ha
     have isa:=H2.2 a (List.mem_of_getElem? ha)
     have hlt':(k:Int)<r.length:=by omega
     have hn:=hide (afL ha)
     have hm:=anN r (k+1)
     have hn2:(flt (r.take (k+1))).length=(flt (r.take k)).length+a.l.length:=by rw[hn.out,List.length_append]
     have hk0:(0:Int)≤(k:Int):=by omega
     have sum:(flt (r.take k)).length+a.l.length≤150000000000000:=by omega
     clear hcell ha H2 hn2 hm
     generalize flt (r.take k)=q at*
     go_wp2_with (at_builtin;refine df rfl (.tmp 31) (.tmp 32) 61 rfl .u8 5 w.heap.size 1 underlying61 Tryz.info5 (by decide) _ q rfl own _ a.l rfl isa (by simp;omega) szr ?_)
     intro v2 w2 aW az _
     rw[←hn.out]at aW
     have b3:=aI.trans az
     clear own isa e4 az
     go_wp2
     go_roundw
     case rel=>exact⟨k+1,by omega,by go_num,aW,b3⟩
     case measure=>simp[intOf];omega
    ·obtain rfl:k=r.length:=by omega
     rw[List.take_length]at own
     have hlt':¬(r.length:Int)<r.length:=by omega
     go_wp2
     go_ret
     exact⟨_,rfl,own,aI⟩
def apd (bs r:List Int):List Int:=if r.length≤131072 then bs++Fm.dK r else []
def ape (r:List Int):Int:=if r.length≤131072 then 0 else 3
theorem arn (n:Nat)(h:n≤140737488355328):IntKind.u64.wrap (n:Int)=n:=by
 rw[IntKind.wrap_u64];omega
theorem aaO (vb vr:Value)(bs r:List Int)(w:World)(hb:Is .u8 w vb bs)(hr:Is .u8 w vr r)(hl:bs.length≤140737488351232)(hl':r.length≤140737488351232):
  Calls prog 187 #[vb,vr] w fun E w'=>∃v',E=.returned (.tuple #[v',.int .i64 (ape r)])∧Own .u8 5 w.heap.size w' v' (apd bs r)∧Bq w w':=by
 obtain⟨ro,rc,hv,hcap,hcm⟩:=hr.shape
 subst hv
 obtain⟨bo,bc,hv,hcap',hcm'⟩:=hb.shape
 subst hv
 have HB:=hide hb
 have HR:=hide hr
 clear hb hr
 by_cases hlong:r.length≤131072
 ·have e1:ape r=0:=if_pos hlong
  have e2:apd bs r=bs++Fm.dK r:=if_pos hlong
  rw[e1,e2]
  have hn:¬(131072:Int)<(r.length:Int):=by omega
  have e3:IntKind.u64.wrap (r.length:Int)=r.length:=arn _ (by omega)
  have hz:=Fm.bO hlong
  clear e1 e2
  go_enter func187,ntmps187
  go_wp2_with fail
  refine(gL (.slice none 0 0) [] (r.length:Int) _ (Own.nil .u8 5 w.heap.size w).is (by simp) (by omega) (by omega)).mono ?_
  rintro E w1 ⟨v1,rfl,aX,aj⟩
  rw[List.nil_append,Int.toNat_natCast]at aX
  obtain⟨no,nc,hv,_,_⟩:=aX.is.shape
  subst hv
  generalize hvn:Value.slice no (Vm.enc r.length).length nc=v1 at*
  generalize hvb:Value.slice bo bs.length bc=vb at*
  obtain⟨w2,hw2,dA,az,B2⟩:=au w1 #[vb,v1,.slice ro r.length rc] 61
  have row:aah w2 (.slice (some ⟨w1.heap.size,0,none⟩) 3 3) [⟨vb,bs⟩,⟨v1,Vm.enc r.length⟩,⟨.slice ro r.length rc,r⟩]:=by
   refine⟨?_,?_⟩
   ·obtain⟨W,hW,_,_,ho⟩:=rE bwc 1 aij 61 w1 #[vb,v1,.slice ro r.length rc] 3 [⟨vb,bs⟩,⟨v1,Vm.enc r.length⟩,⟨.slice ro r.length rc,r⟩] rfl rfl (by unfold maxLen;omega)
    rw[←hw2,hW]
    exact ho.row
   ·intro a ha
    simp at ha
    rcases ha with rfl|rfl|rfl
    ·exact(HB.out.below aj).below az
    ·exact(aX.below az).is
    ·exact(HR.out.below aj).below az
  have szs:=aj.size
  have HC:=hide (ai5 _ _ w2 row (by simp) (by simp[flt];have:(Vm.enc r.length).length≤3:=hz;omega))
  have b02:Bq w w2:=aj.trans (az.mono szs)
  clear aX row aj az B2
  subst hvn hvb
  go_wp2_with fail
  refine HC.out.mono ?_
  rintro E w3 ⟨v3,rfl,bK,aC⟩
  have bz:Own .u8 5 w2.heap.size w3 v3 (bs++Fm.dK r):=by simpa[flt,Fm.dK]using bK
  clear HC bK
  go_wp2
  go_ret2
  exact⟨_,rfl,bz.bn (by omega),b02.trans (aC.mono (by omega))⟩
 ·have e1:ape r=3:=if_neg hlong
  have e2:apd bs r=[]:=if_neg hlong
  rw[e1,e2]
  have hn:(131072:Int)<(r.length:Int):=by omega
  go_enter func187,ntmps187
  go_wp2
  go_ret2
  exact⟨_,rfl,Own.nil _ _ _ _,Below.refl _ _⟩
theorem anh {bs:List Int}{most:Nat}{u i g:Int}(hm:most<18446744073709551616)(h:aaJ bs most u i g):
  (∃x:Nat,u=x∧i=Vm.sz x∧g=0∧x≤most∧Vm.enc x<+:bs)∨(u=0∧i=0∧g=5∧∀x:Nat,x≤most→¬Vm.enc x<+:bs):=by
 rcases h with⟨hR,h1,h2,he⟩|⟨hu,hi,he,x,n,f,hR,hcase⟩
 ·rcases hR with⟨x,hx,hp,h3,h4,_⟩|⟨_,_,_,h5⟩
  ·exact .inl ⟨x,h3,h4,he,by omega,hp⟩
  ·simp at h5
 ·refine .inr ⟨hu,hi,he,fun y hy hp=>?_⟩
  have:=Vm.qC hR (u:=y) (by omega) hp
  omega
theorem ayO {bs:List Int}(h:∀x:Nat,x≤131072→¬Vm.enc x<+:bs):Fm.Rd bs [] 0 5:=.inr ⟨rfl,rfl,rfl,fun s hs hp=>h _ hs (Fm.sU hp).1⟩
theorem aro {bs:List Int}{x:Nat}(h:Vm.enc x<+:bs)(hx:bs.length-Vm.sz x<x):Fm.Rd bs [] 0 5:=.inr ⟨rfl,rfl,rfl,fun s hs hp=>by
 obtain⟨h1,h2,_⟩:=Fm.sU hp
 have:=Vm.dG bs _ _ h h1
 subst this
 omega⟩
theorem atz {bs:List Int}{x:Nat}(h:Vm.enc x<+:bs)(h':x≤131072)(hx:x≤bs.length-Vm.sz x):Fm.Rd bs ((bs.drop (Vm.sz x)).take x) (Vm.sz x+x) 0:=by
 obtain⟨h1,h2⟩:=Fm.ak7 h hx
 exact .inl ⟨rfl,by omega,by rw[h1],h2⟩
theorem rC (vb:Value)(bs:List Int)(w:World)(hb:Is .u8 w vb bs)(hl:bs.length≤150000000000000):
  Calls prog 142 #[vb] w fun E w'=>∃(v:Value) (r:List Int) (n:Nat) (e:Int),E=.returned (.tuple #[v,.int .i64 n,.int .i64 e])∧Own .u8 5 w.heap.size w' v r∧Bq w w'∧Hid (Fm.Rd bs r n e):=by
 obtain⟨u,i,g,hS⟩:=uk bs ((131072:Nat):Int)
 have HS:=hide (lS vb bs _ u i g w hb hl (by omega) (by omega) hS)
 rcases anh (by omega) hS with⟨x,rfl,rfl,rfl,hx,hp⟩|⟨rfl,rfl,rfl,hno⟩
 ·have hz:=Fm.bO hx
  have hpl:Vm.sz x≤bs.length:=hp.length_le
  by_cases hlong:x≤bs.length-Vm.sz x
  ·have R:=hide (atz hp hx hlong)
   obtain⟨vs,hsl,gT⟩:=hb.qB Tryz.lZ Tryz.nH (Vm.sz x) (Vm.sz x+x) (by omega) (by omega)
   rw[show Vm.sz x+x-Vm.sz x=x by omega]at gT
   have hlt:((bs.drop (Vm.sz x)).take x).length≤131072:=by rw[List.length_take,List.length_drop];omega
   have HC:=hide (pG vs _ w gT (by omega))
   obtain⟨ao,cap,hv,hcap,hcm⟩:=hb.shape
   subst hv
   clear hb gT hlt hS hp
   generalize (bs.drop (Vm.sz x)).take x=r at*
   generalize Vm.sz x=m at*
   have e1:IntKind.i64.wrap ((bs.length:Int)-(m:Int))=(bs.length:Int)-m:=aQ _ (by omega) (by omega)
   have e2:IntKind.i64.wrap ((m:Int)+(x:Int))=(m:Int)+x:=aQ _ (by omega) (by omega)
   have e3:¬(bs.length:Int)-m<x:=by omega
   have hsl2:∀wx,(Instr.slice 61 (.slice ao bs.length cap) (some (.int .i64 (m:Int))) (some (.int .i64 ((m:Int)+(x:Int)))) none).run prog wx=.ok vs wx:=by simpa using hsl
   clear hsl
   go_enter func142,ntmps142
   go_wp2_with fail
   refine HS.out.mono ?_
   rintro E w1 ⟨rfl,rfl⟩
   clear HS
   go_wp2_with fail
   refine HC.out.mono ?_
   rintro E w2 ⟨v2,rfl,aW,az⟩
   clear HC hsl2
   go_wp2
   go_ret3
   exact⟨v2,r,m+x,0,by simp,aW,az,R⟩
  ·have R:=hide (aro hp (by omega))
   obtain⟨ao,cap,hv,hcap,hcm⟩:=hb.shape
   subst hv
   clear hb hS hp
   generalize Vm.sz x=m at*
   have e1:IntKind.i64.wrap ((bs.length:Int)-(m:Int))=(bs.length:Int)-m:=aQ _ (by omega) (by omega)
   have e3:(bs.length:Int)-m<x:=by omega
   go_enter func142,ntmps142
   go_wp2_with fail
   refine HS.out.mono ?_
   rintro E w1 ⟨rfl,rfl⟩
   clear HS
   go_wp2
   go_ret3
   exact⟨_,[],0,5,rfl,Own.nil _ _ _ _,Below.refl _ _,R⟩
 ·have R:=hide (ayO hno)
  clear hb hS hno
  go_enter func142,ntmps142
  go_wp2_with fail
  refine HS.out.mono ?_
  rintro E w1 ⟨rfl,rfl⟩
  clear HS
  go_wp2
  go_ret3
  exact⟨_,[],0,5,rfl,Own.nil _ _ _ _,Below.refl _ _,R⟩
def vp (x:Pm.Pg):Value:=.agg #[.int .i64 x.e,.int .u8 x.r,.int .i64 x.a,.int .u8 x.p,.int .i64 x.f,.int .i64 x.b]
def cp (x:Pm.Pg):Array Value:=#[.int .i64 x.e,.int .u8 x.r,.int .i64 x.a,.int .u8 x.p,.int .i64 x.f,.int .i64 x.b]
def vn (x:Pm.Pg):Value:=.agg #[.int .i64 x.e,.int .i64 x.r,.int .i64 x.a,.int .i64 x.p,.int .i64 x.f,.int .i64 x.b]
def ig (x:Pm.Pg):Prop:=-9223372036854775808≤x.e∧x.e<9223372036854775808∧0≤x.r∧x.r<256∧-9223372036854775808≤x.a∧x.a<9223372036854775808∧0≤x.p∧x.p<256∧-9223372036854775808≤x.f∧x.f<9223372036854775808∧-9223372036854775808≤x.b∧x.b<9223372036854775808
theorem wT {x:Pm.Pg}(h:Pm.Ok x):ig x:=by
 have:=Pm.pX h
 unfold ig
 omega
structure Six (w:World) (g:Nat) (a b c d e f:Value):Prop where
 c0:w.cell? ⟨g,0,none⟩=some a
 c1:w.cell? ⟨g,1,none⟩=some b
 c2:w.cell? ⟨g,2,none⟩=some c
 c3:w.cell? ⟨g,3,none⟩=some d
 c4:w.cell? ⟨g,4,none⟩=some e
 c5:w.cell? ⟨g,5,none⟩=some f
theorem aR {w:World}{g:Nat}{t:TypeId}{fr:Nat×Nat}{a b c d e f:Value}(h:w.heap[g]? =some (.cells #[a,b,c,d,e,f] t fr)):Six w g a b c d e f:=
 ⟨ai h 0 rfl,ai h 1 rfl,ai h 2 rfl,ai h 3 rfl,ai h 4 rfl,ai h 5 rfl⟩
theorem gN {V:World}{R:Nat}{t:TypeId}{x0 x1 x2 x3 x4 x5:Value}(hR:V.heap[R]? =some (.cells #[x0,x1,x2,x3,x4,x5] t (0,0)))(a b c d e f:Value):
  ∃V',(((((V.setCell ⟨R,0,none⟩ a).setCell ⟨R,1,none⟩ b).setCell ⟨R,2,none⟩ c).setCell ⟨R,3,none⟩ d).setCell ⟨R,4,none⟩ e).setCell ⟨R,5,none⟩ f=V'∧V'.heap[R]? =some (.cells #[a,b,c,d,e,f] t (0,0))∧V.grownBy V' (some R)∧
   Six V R x0 x1 x2 x3 x4 x5∧(∀j,V.frozen? ⟨R,j,none⟩=false)∧Six V' R a b c d e f:=by
 have h:=aF (aF (aF (aF (aF (aF hR 0 a) 1 b) 2 c) 3 d) 4 e) 5 f
 refine⟨_,rfl,h,?_,aR hR,aA hR,aR h⟩
 exact aH (aH (aH (aH (aH (ax V ⟨R,0,none⟩ a) (ax _ ⟨R,1,none⟩ b)) (ax _ ⟨R,2,none⟩ c)) (ax _ ⟨R,3,none⟩ d)) (ax _ ⟨R,4,none⟩ e)) (ax _ ⟨R,5,none⟩ f)
theorem ng (w:World)(t:TypeId)(x0 x1 x2 x3 x4 x5 a b c d e f:Value):
  ∃V,((((((w.alloc (.cells #[x0,x1,x2,x3,x4,x5] t)).setCell ⟨w.heap.size,0,none⟩ a).setCell ⟨w.heap.size,1,none⟩ b).setCell ⟨w.heap.size,2,none⟩ c).setCell ⟨w.heap.size,3,none⟩ d).setCell ⟨w.heap.size,4,none⟩ e).setCell ⟨w.heap.size,5,none⟩ f=V∧w.alloc (.cells #[a,b,c,d,e,f] t)=V∧V.heap.size=w.heap.size+1∧Bq w V∧V.heap[w.heap.size]? =some (.cells #[a,b,c,d,e,f] t (0,0))∧Six V w.heap.size a b c d e f:=by
 obtain⟨V,h1,h2,h3,h4⟩:=au w #[a,b,c,d,e,f] t
 refine⟨V,?_,h1,h2,h3,h4,aR h4⟩
 rw[←h1]
 simp[go_sem]
def fst (n:Int):Pm.Pg:=if n=0 then⟨1,1,0,0,0,0⟩else if n=1 then⟨1,2,0,0,0,0⟩else Pm.no
def fse (n:Int):Int:=if n=0 then 0 else if n=1 then 0 else 2
theorem adY (n:Int)(w:World):
  Calls prog 172 #[.int .i64 n] w fun E w'=>E=.returned (.tuple #[vp (fst n),.int .i64 (fse n)])∧Bq w w':=by
 obtain⟨w1,hw1,aV,aj,hB⟩:=au w #[.int .i64 0,.int .u8 0,.int .i64 0,.int .u8 0,.int .i64 0,.int .i64 0] 46
 unfold fst fse vp
 go_enter func172,ntmps172
 by_cases h0:n=0
 ·have h0':(n==0)=true:=by simp[h0]
  rw[if_pos h0,if_pos h0]
  obtain⟨V,hV,bV,gV,⟨a0,a1,a2,a3,a4,a5⟩,fr,⟨z0,z1,z2,z3,z4,z5⟩⟩:=gN hB (.int .i64 1) (.int .u8 1) (.int .i64 0) (.int .u8 0) (.int .i64 0) (.int .i64 0)
  have f0:=fr 0;have f1:=fr 1;have f2:=fr 2;have f3:=fr 3;have f4:=fr 4;have f5:=fr 5
  have aI:=aG aj gV (Nat.le_refl _) (by omega)
  clear h0 hB bV gV fr aj
  go_wp2
  refine bodyPost_ret (v:=.tuple #[.agg #[.int .i64 1,.int .u8 1,.int .i64 0,.int .u8 0,.int .i64 0,.int .i64 0],.int .i64 0]) (by simp[results,results172,go_sem,z0,z1,z2,z3,z4,z5]) rfl ?_
  exact⟨rfl,aI⟩
 ·have h0':(n==0)=false:=by simp[h0]
  rw[if_neg h0,if_neg h0]
  by_cases h1:n=1
  ·have h1':(n==1)=true:=by simp[h1]
   rw[if_pos h1,if_pos h1]
   obtain⟨V,hV,bV,gV,⟨a0,a1,a2,a3,a4,a5⟩,fr,⟨z0,z1,z2,z3,z4,z5⟩⟩:=gN hB (.int .i64 1) (.int .u8 2) (.int .i64 0) (.int .u8 0) (.int .i64 0) (.int .i64 0)
   have f0:=fr 0;have f1:=fr 1;have f2:=fr 2;have f3:=fr 3;have f4:=fr 4;have f5:=fr 5
   have aI:=aG aj gV (Nat.le_refl _) (by omega)
   clear h0 h1 hB bV gV fr aj
   go_wp2
   refine bodyPost_ret (v:=.tuple #[.agg #[.int .i64 1,.int .u8 2,.int .i64 0,.int .u8 0,.int .i64 0,.int .i64 0],.int .i64 0]) (by simp[results,results172,go_sem,z0,z1,z2,z3,z4,z5]) rfl ?_
   exact⟨rfl,aI⟩
  ·have h1':(n==1)=false:=by simp[h1]
   rw[if_neg h1,if_neg h1]
   obtain⟨V,hV,bV,gV,⟨a0,a1,a2,a3,a4,a5⟩,fr,⟨z0,z1,z2,z3,z4,z5⟩⟩:=gN hB (.int .i64 0) (.int .u8 0) (.int .i64 0) (.int .u8 0) (.int .i64 0) (.int .i64 0)
   have f0:=fr 0;have f1:=fr 1;have f2:=fr 2;have f3:=fr 3;have f4:=fr 4;have f5:=fr 5
   have aI:=aG aj gV (Nat.le_refl _) (by omega)
   clear h0 h1 hB bV gV fr aj
   go_wp2
   refine bodyPost_ret (v:=.tuple #[.agg #[.int .i64 0,.int .u8 0,.int .i64 0,.int .u8 0,.int .i64 0,.int .i64 0],.int .i64 2]) (by simp[results,results172,go_sem,z0,z1,z2,z3,z4,z5]) rfl ?_
   exact⟨rfl,aI⟩
theorem ag2 (z:Int)(h0:0≤z)(h1:z<256):IntKind.i64.wrap z=z:=aQ z (by omega) (by omega)
theorem vU (x:Pm.Pg)(w:World)(hx:ig x):
  Calls prog 136 #[vp x] w fun E w'=>E=.returned (vn x)∧Bq w w':=by
 unfold vp vn
 obtain⟨g1,g2,g3,g4,g5,g6,g7,g8,g9,g10,g11,g12⟩:=hx
 obtain⟨w1,hw1,aV,aj,hB⟩:=au w #[.int .i64 x.e,.int .u8 x.r,.int .i64 x.a,.int .u8 x.p,.int .i64 x.f,.int .i64 x.b] 46
 obtain⟨w2,hw2,dA,az,hC⟩:=au w1 #[.int .i64 0,.int .i64 0,.int .i64 0,.int .i64 0,.int .i64 0,.int .i64 0] 190
 obtain⟨c0,c1,c2,c3,c4,c5⟩:=aR ((az.block _ (ay hB)).trans hB)
 rw[aV]at hC
 obtain⟨V,hV,bV,gV,⟨a0,a1,a2,a3,a4,a5⟩,fr,⟨z0,z1,z2,z3,z4,z5⟩⟩:=gN hC (.int .i64 x.e) (.int .i64 x.r) (.int .i64 x.a) (.int .i64 x.p) (.int .i64 x.f) (.int .i64 x.b)
 have f0:=fr 0;have f1:=fr 1;have f2:=fr 2;have f3:=fr 3;have f4:=fr 4;have f5:=fr 5
 have aI:=aG (aj.trans (az.mono (by omega))) gV (by omega) (by omega)
 have e1:=ag2 x.r g3 g4
 have e2:=ag2 x.p g7 g8
 clear hB hC bV gV fr aj az
 go_enter func136,ntmps136
 go_wp2
 refine bodyPost_ret (v:=.agg #[.int .i64 x.e,.int .i64 x.r,.int .i64 x.a,.int .i64 x.p,.int .i64 x.f,.int .i64 x.b]) (by simp[results,results136,go_sem,z0,z1,z2,z3,z4,z5]) rfl ?_
 exact⟨rfl,aI⟩
def same (x y:Pm.Pg):Bool:=x.e==y.e&&x.r==y.r&&x.a==y.a&&x.p==y.p&&x.f==y.f&&x.b==y.b
theorem Tryz.ai2 (a b c d e f a' b' c' d' e' f':Int)(w:World):(binOp .eql 46 (.agg #[.int .i64 a,.int .u8 b,.int .i64 c,.int .u8 d,.int .i64 e,.int .i64 f]) (.agg #[.int .i64 a',.int .u8 b',.int .i64 c',.int .u8 d',.int .i64 e',.int .i64 f'])).run prog w=.ok (.bool (a==a'&&b==b'&&c==c'&&d==d'&&e==e'&&f==f')) w:=by
 rw[run_eql_struct,run_equalIn_agg w 9999 46 _ _ (by kernel_rfl) (by kernel_rfl)]
 unfold Program.fieldsOf
 rw[underlying46]
 simp[Op.eqFields,go_sem,underlying23,underlying44,underlying3]
 by_cases h1:a=a'<;>by_cases h2:b=b'<;>by_cases h3:c=c'<;>by_cases h4:d=d'<;>by_cases h5:e=e'<;>by_cases h6:f=f'<;>simp[h1,h2,h3,h4,h5,h6]
def fo (q:Nat) (off:Bool) (x:Pm.Pg) (vw:Value) (en:Int) (vr vs:Value):Array Value:=#[.pointer (some ⟨q,0,none⟩),.bool off,.int .i64 x.e,.int .u8 x.r,.int .i64 x.a,.int .u8 x.p,.int .i64 x.f,.int .i64 x.b,vw,.int .i64 en,.slice none 0 0,vr,vs]
def jk (x:Pm.Pg) (ep en rn:Int) (p:Nat):Array Value:=#[.int .i64 x.e,.int .u8 x.r,.int .i64 x.a,.int .u8 x.p,.int .i64 x.f,.int .i64 x.b,.int .i64 ep,.int .i64 en,.int .i64 rn,.func (.func 180) #[.pointer (some ⟨p,0,none⟩)] #[]]
structure Ten (w:World) (g:Nat) (a b c d e f h i j k:Value):Prop where
 c0:w.cell? ⟨g,0,none⟩=some a
 c1:w.cell? ⟨g,1,none⟩=some b
 c2:w.cell? ⟨g,2,none⟩=some c
 c3:w.cell? ⟨g,3,none⟩=some d
 c4:w.cell? ⟨g,4,none⟩=some e
 c5:w.cell? ⟨g,5,none⟩=some f
 c6:w.cell? ⟨g,6,none⟩=some h
 c7:w.cell? ⟨g,7,none⟩=some i
 c8:w.cell? ⟨g,8,none⟩=some j
 c9:w.cell? ⟨g,9,none⟩=some k
theorem mJ {w:World}{g:Nat}{t:TypeId}{fr:Nat×Nat}{a b c d e f h i j k:Value}(hg:w.heap[g]? =some (.cells #[a,b,c,d,e,f,h,i,j,k] t fr)):Ten w g a b c d e f h i j k:=
 ⟨ai hg 0 rfl,ai hg 1 rfl,ai hg 2 rfl,ai hg 3 rfl,ai hg 4 rfl,ai hg 5 rfl,ai hg 6 rfl,ai hg 7 rfl,ai hg 8 rfl,ai hg 9 rfl⟩
theorem aeA {V:World}{R:Nat}{t:TypeId}{x0 x1 x2 x3 x4 x5 x6 x7 x8 x9:Value}(hR:V.heap[R]? =some (.cells #[x0,x1,x2,x3,x4,x5,x6,x7,x8,x9] t (0,0)))(a b c d e f h i j k:Value):
  ∃V',(((((((((V.setCell ⟨R,0,none⟩ a).setCell ⟨R,1,none⟩ b).setCell ⟨R,2,none⟩ c).setCell ⟨R,3,none⟩ d).setCell ⟨R,4,none⟩ e).setCell ⟨R,5,none⟩ f).setCell ⟨R,6,none⟩ h).setCell ⟨R,7,none⟩ i).setCell ⟨R,8,none⟩ j).setCell ⟨R,9,none⟩ k=V'∧V'.heap[R]? =some (.cells #[a,b,c,d,e,f,h,i,j,k] t (0,0))∧V.grownBy V' (some R)∧
   Ten V R x0 x1 x2 x3 x4 x5 x6 x7 x8 x9∧(∀j,V.frozen? ⟨R,j,none⟩=false)∧Ten V' R a b c d e f h i j k:=by
 have q0:(V.setCell ⟨R,0,none⟩ a).heap[R]? =some (.cells #[a,x1,x2,x3,x4,x5,x6,x7,x8,x9] t (0,0)):=aF hR 0 a
 have q1:((V.setCell ⟨R,0,none⟩ a).setCell ⟨R,1,none⟩ b).heap[R]? =some (.cells #[a,b,x2,x3,x4,x5,x6,x7,x8,x9] t (0,0)):=aF q0 1 b
 have q2:(((V.setCell ⟨R,0,none⟩ a).setCell ⟨R,1,none⟩ b).setCell ⟨R,2,none⟩ c).heap[R]? =some (.cells #[a,b,c,x3,x4,x5,x6,x7,x8,x9] t (0,0)):=aF q1 2 c
 have q3:((((V.setCell ⟨R,0,none⟩ a).setCell ⟨R,1,none⟩ b).setCell ⟨R,2,none⟩ c).setCell ⟨R,3,none⟩ d).heap[R]? =some (.cells #[a,b,c,d,x4,x5,x6,x7,x8,x9] t (0,0)):=aF q2 3 d
 have q4:(((((V.setCell ⟨R,0,none⟩ a).setCell ⟨R,1,none⟩ b).setCell ⟨R,2,none⟩ c).setCell ⟨R,3,none⟩ d).setCell ⟨R,4,none⟩ e).heap[R]? =some (.cells #[a,b,c,d,e,x5,x6,x7,x8,x9] t (0,0)):=aF q3 4 e
 have q5:((((((V.setCell ⟨R,0,none⟩ a).setCell ⟨R,1,none⟩ b).setCell ⟨R,2,none⟩ c).setCell ⟨R,3,none⟩ d).setCell ⟨R,4,none⟩ e).setCell ⟨R,5,none⟩ f).heap[R]? =some (.cells #[a,b,c,d,e,f,x6,x7,x8,x9] t (0,0)):=aF q4 5 f
 have q6:(((((((V.setCell ⟨R,0,none⟩ a).setCell ⟨R,1,none⟩ b).setCell ⟨R,2,none⟩ c).setCell ⟨R,3,none⟩ d).setCell ⟨R,4,none⟩ e).setCell ⟨R,5,none⟩ f).setCell ⟨R,6,none⟩ h).heap[R]? =some (.cells #[a,b,c,d,e,f,h,x7,x8,x9] t (0,0)):=aF q5 6 h
 have q7:((((((((V.setCell ⟨R,0,none⟩ a).setCell ⟨R,1,none⟩ b).setCell ⟨R,2,none⟩ c).setCell ⟨R,3,none⟩ d).setCell ⟨R,4,none⟩ e).setCell ⟨R,5,none⟩ f).setCell ⟨R,6,none⟩ h).setCell ⟨R,7,none⟩ i).heap[R]? =some (.cells #[a,b,c,d,e,f,h,i,x8,x9] t (0,0)):=aF q6 7 i
 have q8:(((((((((V.setCell ⟨R,0,none⟩ a).setCell ⟨R,1,none⟩ b).setCell ⟨R,2,none⟩ c).setCell ⟨R,3,none⟩ d).setCell ⟨R,4,none⟩ e).setCell ⟨R,5,none⟩ f).setCell ⟨R,6,none⟩ h).setCell ⟨R,7,none⟩ i).setCell ⟨R,8,none⟩ j).heap[R]? =some (.cells #[a,b,c,d,e,f,h,i,j,x9] t (0,0)):=aF q7 8 j
 have hx:((((((((((V.setCell ⟨R,0,none⟩ a).setCell ⟨R,1,none⟩ b).setCell ⟨R,2,none⟩ c).setCell ⟨R,3,none⟩ d).setCell ⟨R,4,none⟩ e).setCell ⟨R,5,none⟩ f).setCell ⟨R,6,none⟩ h).setCell ⟨R,7,none⟩ i).setCell ⟨R,8,none⟩ j).setCell ⟨R,9,none⟩ k).heap[R]? =some (.cells #[a,b,c,d,e,f,h,i,j,k] t (0,0)):=aF q8 9 k
 refine⟨_,rfl,hx,?_,mJ hR,aA hR,mJ hx⟩
 have g6:=aH (aH (aH (aH (aH (ax V ⟨R,0,none⟩ a) (ax _ ⟨R,1,none⟩ b)) (ax _ ⟨R,2,none⟩ c)) (ax _ ⟨R,3,none⟩ d)) (ax _ ⟨R,4,none⟩ e)) (ax _ ⟨R,5,none⟩ f)
 exact aH (aH (aH (aH g6 (ax _ ⟨R,6,none⟩ h)) (ax _ ⟨R,7,none⟩ i)) (ax _ ⟨R,8,none⟩ j)) (ax _ ⟨R,9,none⟩ k)
structure StA (p:Nat) (w:World) (q:Nat) (off:Bool) (x:Pm.Pg) (vw:Value) (en:Int) (vr vs:Value):Prop where
 c0:w.cell? ⟨p,0,none⟩=some (.pointer (some ⟨q,0,none⟩))
 c1:w.cell? ⟨p,1,none⟩=some (.bool off)
 c2:w.cell? ⟨p,2,none⟩=some (.int .i64 x.e)
 c3:w.cell? ⟨p,3,none⟩=some (.int .u8 x.r)
 c4:w.cell? ⟨p,4,none⟩=some (.int .i64 x.a)
 c5:w.cell? ⟨p,5,none⟩=some (.int .u8 x.p)
 c6:w.cell? ⟨p,6,none⟩=some (.int .i64 x.f)
 c7:w.cell? ⟨p,7,none⟩=some (.int .i64 x.b)
 c8:w.cell? ⟨p,8,none⟩=some vw
 c9:w.cell? ⟨p,9,none⟩=some (.int .i64 en)
 c10:w.cell? ⟨p,10,none⟩=some (.slice none 0 0)
 c11:w.cell? ⟨p,11,none⟩=some vr
 c12:w.cell? ⟨p,12,none⟩=some vs
theorem ku {p q:Nat}{w:World}{t:TypeId}{fr:Nat×Nat}{off:Bool}{x:Pm.Pg}{vw vr vs:Value}{en:Int}(h:w.heap[p]? =some (.cells (fo q off x vw en vr vs) t fr)):StA p w q off x vw en vr vs:=
 ⟨ai h 0 rfl,ai h 1 rfl,ai h 2 rfl,ai h 3 rfl,ai h 4 rfl,ai h 5 rfl,ai h 6 rfl,ai h 7 rfl,ai h 8 rfl,ai h 9 rfl,ai h 10 rfl,ai h 11 rfl,ai h 12 rfl⟩
def xP (p:Bool) (k v:ByteArray):Value:=.agg #[.bool p,.string k,.string v]
theorem ara (p:Bool)(k v:ByteArray):Om.chk p k.data.toList v.data.toList=if 1≤k.size∧k.size≤16∧v.size≤32∧(p=true∨v.toList.isEmpty=true)then 0 else 2:=by
 unfold Om.chk
 simp only[Lib.toList_data,List.isEmpty_iff,Lib.size_eq]
theorem lX (p:Bool)(k v:ByteArray)(w:World)(hk:k.size≤140737488351232)(hv:v.size≤140737488351232):
  Calls prog 94 #[xP p k v] w fun E w'=>E=.returned (.int .i64 (Om.chk p k.data.toList v.data.toList))∧Bq w w':=by
 unfold xP
 obtain⟨c,hc⟩:∃c,Om.chk p k.data.toList v.data.toList=c:=⟨_,rfl⟩
 rw[hc]
 have HC:=hide hc
 clear hc
 go_enter func94,ntmps94
 go_wp2
 all_goals go_ret
 all_goals refine⟨jh ?_,(Below.refl _ _).alloc (Nat.le_refl _) _⟩
 all_goals rw[←HC.out,ara]
 all_goals clear HC
 all_goals (cases p<;>simp_all<;>first|omega|(intros;omega))
section
variable {P:Program} {w:World} {ops:Array Oper} {rest:List Oper} {o:Oper} {a:Act} {Q:Exit→Act→World→Prop}
theorem zw (hgd:o.guard=none)(sl x:Operand)(t u:TypeId)
  (ho:o.op=.call {callee:=.builtin .append,args:=#[sl,x],argTypes:=#[t,u]})
  (e:TypeId) (base:Nat) (ht:P.underlying t=some (.slice e)) (hu:P.underlying u=some .string) (hinfo:(P.info? e).map (fun i=>(i.zero,i.size,i.bytes))=some (some (.int .u8 0),1,1))
  (v:Value) (zs:List Int) (hs:a.eval sl=v) (hown:Own .u8 e base w v zs) (s:ByteArray) (hx:a.eval x=.string s)
  (hlen:zs.length+s.size≤140737488355328) (hbase:base≤w.heap.size)
  (h:∀v' w',Own .u8 e base w' v' (zs++Om.ints s.data.toList)→Below base w w'→wpList P ops Q rest (a.put o.dst v') w'):wpList P ops Q (o::rest) a w:=by
 obtain⟨i,hi,hz,hsize,hb⟩:=info_parts hinfo
 refine Lib.wpList_append_own_string w hgd sl x t u ho base e i ht hu hi hz hsize hb v zs.length _ hs hown.2 s hx (by unfold maxLen;omega) hlen hbase fun v' w' h1 h2 _=>?_
 refine h v' w' ⟨?_,?_⟩ ((Below.refl _ _).grown h2 hbase fun k' hk=>(hown.2.lt k' hk).1)
 ·intro z hz
  rcases List.mem_append.1 hz with hz|hz
  ·exact hown.1 z hz
  ·unfold Om.ints at hz
   obtain⟨c,_,rfl⟩:=List.mem_map.1 hz
   have:=c.toNat_lt
   exact wf_u8 (by omega) (by omega)
 ·have e1:zs.length+s.size=(zs++Om.ints s.data.toList).length:=by rw[List.length_append,Om.iW,Lib.size_eq]
  rw[e1]at h1
  simpa[Lib.strCells_eq,Lib.byteCells,Om.ints,List.map_append,Function.comp_def]using h1
end
theorem ads (s:ByteArray)(w:World)(hs:s.size≤140737488351232):
  Calls prog 367 #[.string s] w fun E w'=>E=.returned (.int .i64 (Om.cnt s.data.toList).length)∧w=w':=by
 have h10:=Vm.lY (x:=s.size) (by omega)
 have e1:((Om.cnt s.data.toList).length:Int)=Vm.sz s.size+s.size:=by rw[Om.lM,←Lib.size_eq];omega
 rw[e1]
 clear e1
 generalize hm:Vm.sz s.size=m at*
 have HM:=hide hm
 clear hm
 go_enter func367,ntmps367
 go_wp2_with fail
 refine(aeR _ _ (by omega) (by omega)).mono ?_
 rintro E w1 ⟨rfl,rfl⟩
 rw[Int.toNat_natCast,HM.out]
 go_wp2
 go_ret
 exact⟨rfl,rfl⟩
theorem auh (s:ByteArray)(w:World)(hs:s.size≤140737488351232):
  Calls prog 367 #[.string s] w fun E w'=>E=.returned (.int .i64 (Om.cnt s.data.toList).length)∧∃m,w'=w.drewN m:=by
 refine(ads s w hs).mono ?_
 rintro E w1 ⟨rfl,rfl⟩
 exact⟨rfl,0,rfl⟩
theorem aai (base:Nat)(v:Value)(zs:List Int)(s:ByteArray)(w:World)(hv:Own .u8 5 base w v zs)(hb:base≤w.heap.size)(hl:zs.length≤140737488353280)(hs:s.size≤64):
  Calls prog 355 #[v,.string s] w fun E w'=>∃v',E=.returned v'∧Own .u8 5 base w' v' (zs++Om.cnt s.data.toList)∧Below base w w':=by
 have h10:=Vm.lY (x:=s.size) (by omega)
 have hz10:(Vm.enc s.size).length≤10:=h10
 go_enter func355,ntmps355
 go_wp2_with fail
 refine(gL _ [] s.size _ (Is.nil _ _) (by simp) (by omega) (by omega)).mono ?_
 rintro E w1 ⟨v1,rfl,aX,aj⟩
 rw[Int.toNat_natCast,List.nil_append]at aX
 have hb1:=aj.size
 have hv1:=hv.below aj
 have is1:=aX.is
 go_wp2_with (at_builtin;refine df rfl (.tmp 5) (.tmp 9) 61 rfl .u8 5 base 1 underlying61 Tryz.info5 (by decide) _ zs rfl hv1 _ (Vm.enc s.size) rfl is1 (by omega) (by omega) ?_)
 intro v2 w2 aW az _
 have hb2:=az.size
 have hl2:(zs++Vm.enc s.size).length≤140737488353290:=by rw[List.length_append];omega
 go_wp2_with (at_builtin;refine zw rfl (.tmp 11) (.tmp 12) 61 9 rfl 5 base underlying61 underlying9 Tryz.info5 _ (zs++Vm.enc s.size) rfl aW s rfl (by omega) (by omega) ?_)
 intro v3 w3 bK aC
 have bz:Own .u8 5 base w3 v3 (zs++Om.cnt s.data.toList):=by
  unfold Om.cnt
  rw[←Lib.size_eq,←List.append_assoc]
  simpa using bK
 go_wp2
 go_ret
 exact⟨_,rfl,bz,((aj.mono hb).trans az).trans aC⟩
theorem ade (p:Bool)(k v:ByteArray)(w:World)(hc:Om.chk p k.data.toList v.data.toList=0):
  Calls prog 354 #[xP p k v] w fun E w'=>E=.returned (.int .i64 (Om.eT p k.data.toList v.data.toList).length)∧Bq w w':=by
 have hh:=Om.gU hc
 rw[←Lib.size_eq,←Lib.size_eq]at hh
 have h1:=Om.ags (s:=k.data.toList) (by rw[←Lib.size_eq];omega)
 have h2:=Om.ags (s:=v.data.toList) (by rw[←Lib.size_eq];omega)
 have hk:k.size≤140737488351232:=by omega
 have hv:v.size≤140737488351232:=by omega
 clear hc hh
 unfold xP
 cases p
 ·obtain⟨n,hn⟩:∃n,(Om.cnt k.data.toList).length=n:=⟨_,rfl⟩
  have e:((Om.eT false k.data.toList v.data.toList).length:Int)=1+n:=by unfold Om.eT;simp[hn];omega
  rw[e]
  rw[hn]at h1
  have HN:=hide hn
  clear hn e h2
  go_enter func354,ntmps354
  go_wp2_with fail
  refine(ads k _ hk).mono ?_
  rintro E w1 ⟨rfl,rfl⟩
  rw[HN.out]
  go_wp2
  go_ret
  exact⟨rfl,(Below.refl _ _).alloc (Nat.le_refl _) _⟩
 ·have e:((Om.eT true k.data.toList v.data.toList).length:Int)=1+((Om.cnt k.data.toList).length:Nat)+((Om.cnt v.data.toList).length:Nat):=by unfold Om.eT;simp;omega
  rw[e]
  clear e
  go_enter func354,ntmps354
  go_wp2_with fail
  go_quiet ((go_at_call 367;refine Calls.quiet_of (auh _ _ (by assumption))))
  go_wp2
  go_ret
  exact⟨rfl,below_drewN ((Below.refl _ _).alloc (Nat.le_refl _) _) _⟩
theorem Tryz.aks:prog.underlying 61=some (.slice (prog.elem 61)):=by kernel_rfl
theorem Tryz.akG (wx:World):(sizeOf (prog.elem 61)).run prog wx=.ok 1 wx:=by kernel_rfl
def jO (bs:List Int) (most a:Nat) (bad:Bool) (u a':Nat) (bad':Bool):Prop:=
 (bad=true∧bad'=true∧u=0∧a'=a)∨(bad=false∧bad'=true∧u=0∧a'=a∧∀x:Nat,x≤most→¬Vm.enc x<+:bs.drop a)∨(bad=false∧bad'=false∧u≤most∧Vm.enc u<+:bs.drop a∧a'=a+Vm.sz u)
end Go.Proofs.YtlmkaljjocflmaaGreatDoor
