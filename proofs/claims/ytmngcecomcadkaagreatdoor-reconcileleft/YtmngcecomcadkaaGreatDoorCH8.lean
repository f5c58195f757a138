/- Texts of one layer, one behind the other. -/
import Derived.Test.YtmngcecomcadkaaGreatDoorCH3
import Derived.Test.YtmngcecomcadkaaGreatDoorCG2
import Derived.Test.YtmngcecomcadkaaGreatDoorCH4
import Derived.Test.YtmngcecomcadkaaGreatDoorCH2
set_option maxRecDepth 100000
set_option maxHeartbeats 8000000
namespace Go.Proofs.YtmngcecomcadkaaGreatDoor
open Go.RowKit
set_option linter.unusedVariables false
def flt:List Bw→List Int
 |[]=>[]
 |a::r=>a.l++flt r
theorem ab6:∀r s:List Bw,flt (r++s)=flt r++flt s
 |[],s=>rfl
 |a::r,s=>by simp[flt,ab6 r s]
theorem aeg {r:List Bw}{k:Nat}{a:Bw}(h:r[k]? =some a):flt (r.take (k+1))=flt (r.take k)++a.l:=by
 obtain⟨h1,h2⟩:=List.getElem?_eq_some_iff.1 h
 rw[List.take_succ_eq_append_getElem h1,ab6,h2]
 simp[flt]
theorem aj6 (r:List Bw)(k:Nat):(flt (r.take k)).length≤(flt r).length:=by
 have:flt r=flt (r.take k)++flt (r.drop k):=by rw[←ab6,List.take_append_drop]
 rw[this,List.length_append]
 omega
theorem ahR (v:Value)(r:List Bw)(w:World)(h:zB w v r)(hr:r.length≤1000)(hl:(flt r).length≤150000000000000):
  Calls Tryz.prog 162 #[v] w fun E w'=>∃v',E=.returned v'∧Own .u8 5 w.heap.size w' v' (flt r)∧Below w.heap.size w w':=by
 obtain⟨ao,cap,hv,hcap,hcm⟩:=h.1.shape
 have H:=hide h
 subst hv
 clear h
 go_enter Tryz.func162,Tryz.ntmps162
 go_wp2
 go_loopw [3,11] (fun sv iv wr=>∃k:Nat,k≤r.length∧iv=.int .i64 k∧sv=.int .i64 (flt (r.take k)).length∧w=wr) (fun _ iv _=>r.length-(intOf iv).toNat)
 case atStart=>exact⟨0,by omega,rfl,rfl,rfl⟩
 case round=>
  obtain⟨k,hk,rfl,rfl,rfl⟩:=hrel
  by_cases hlt:k<r.length
  ·obtain⟨b,off,cq,iw,_,_,hB,hcell⟩:=H.out.full (by omega)
   simp only[Value.slice.injEq,true_and]at iw
   obtain⟨rfl,rfl⟩:=iw
   obtain⟨a,ha⟩:∃a,r[k]? =some a:=⟨r[k],by rw[List.getElem?_eq_getElem]⟩
   have e4:=hcell k a ha
   obtain⟨av,ac,hav,_,_⟩:=(H.out.2 a (List.mem_of_getElem? ha)).shape
   rw[hav]at e4
   have hlt':(k:Int)<r.length:=by omega
   have hn:=aeg ha
   have hm:=aj6 r (k+1)
   have hn2:(flt (r.take (k+1))).length=(flt (r.take k)).length+a.l.length:=by rw[hn,List.length_append]
   have hn3:((flt (r.take (k+1))).length:Int)=((flt (r.take k)).length:Int)+(a.l.length:Int):=by omega
   generalize hq:(flt (r.take k)).length=q at*
   have e5:IntKind.i64.wrap ((q:Int)+(a.l.length:Int))=(q:Int)+a.l.length:=aS _ (by omega) (by omega)
   have e6:¬(q:Int)+(a.l.length:Int)<0:=by omega
   have hk0:(0:Int)≤(k:Int):=by omega
   clear hcell hn hq hav ha
   go_wp2
   go_roundw
   case rel=>exact⟨k+1,by omega,by go_num,by rw[hn3],trivial⟩
   case measure=>simp[intOf];omega
  ·obtain rfl:k=r.length:=by omega
   rw[List.take_length]
   have hlt':¬(r.length:Int)<r.length:=by omega
   go_wp2_with fail
   refine(alE (flt r).length _ hl).mono ?_
   rintro E w1 ⟨v1,rfl,aX,aj⟩
   have H1:=hide (H.out.below aj)
   go_wp2
   go_loopw [6,27] (fun sv iv wr=>∃k:Nat,k≤r.length∧iv=.int .i64 k∧Own .u8 5 w.heap.size wr sv (flt (r.take k))∧Below w.heap.size w wr) (fun _ iv _=>r.length-(intOf iv).toNat)
   case atStart=>exact⟨0,by omega,rfl,aX,aj⟩
   case round=>
    clear aX aj H1
    obtain⟨k,hk,rfl,own,aF⟩:=hrel
    have szr:=aF.size
    by_cases hlt:k<r.length
    ·have H2:=H.out.below aF
     obtain⟨b,off,cq,iw,_,_,hB,hcell⟩:=H2.full (by omega)
     simp only[Value.slice.injEq,true_and]at iw
     obtain⟨rfl,rfl⟩:=iw
     obtain⟨a,ha⟩:∃a,r[k]? =some a:=⟨r[k],by rw[List.getElem?_eq_getElem]⟩
     have e4:=hcell k a ha
     have isa:=H2.2 a (List.mem_of_getElem? ha)
     have hlt':(k:Int)<r.length:=by omega
     have hn:=hide (aeg ha)
     have hm:=aj6 r (k+1)
     have hn2:(flt (r.take (k+1))).length=(flt (r.take k)).length+a.l.length:=by rw[hn.out,List.length_append]
     have hk0:(0:Int)≤(k:Int):=by omega
     have sum:(flt (r.take k)).length+a.l.length≤150000000000000:=by omega
     clear hcell ha H2 hn2 hm
     generalize flt (r.take k)=q at*
     go_wp2_with (at_builtin;refine bP rfl (.tmp 31) (.tmp 32) 61 rfl .u8 5 w.heap.size 1 Tryz.underlying61 Tryz.info5 (by decide) _ q rfl own _ a.l rfl isa (by simp;omega) szr ?_)
     intro v2 w2 aP au _
     rw[←hn.out]at aP
     have b3:=aF.trans au
     clear own isa e4 au
     go_wp2
     go_roundw
     case rel=>exact⟨k+1,by omega,by go_num,aP,b3⟩
     case measure=>simp[intOf];omega
    ·obtain rfl:k=r.length:=by omega
     rw[List.take_length]at own
     have hlt':¬(r.length:Int)<r.length:=by omega
     go_wp2
     go_ret
     exact⟨_,rfl,own,aF⟩
def xK (bs r:List Int):List Int:=if r.length≤131072 then bs++Fm.bT r else []
def wN (r:List Int):Int:=if r.length≤131072 then 0 else 3
theorem am2 (n:Nat)(h:n≤140737488355328):IntKind.u64.wrap (n:Int)=n:=by
 rw[IntKind.wrap_u64];omega
theorem uK (vb vr:Value)(bs r:List Int)(w:World)(hb:Is .u8 w vb bs)(hr:Is .u8 w vr r)(hl:bs.length≤140737488351232)(hl':r.length≤140737488351232):
  Calls Tryz.prog 117 #[vb,vr] w fun E w'=>∃v',E=.returned (.tuple #[v',.int .i64 (wN r)])∧Own .u8 5 w.heap.size w' v' (xK bs r)∧Below w.heap.size w w':=by
 obtain⟨ro,rc,hv,hcap,hcm⟩:=hr.shape
 subst hv
 obtain⟨bo,bc,hv,hcap',hcm'⟩:=hb.shape
 subst hv
 have HB:=hide hb
 have HR:=hide hr
 clear hb hr
 by_cases hlong:r.length≤131072
 ·have e1:wN r=0:=if_pos hlong
  have e2:xK bs r=bs++Fm.bT r:=if_pos hlong
  rw[e1,e2]
  have hn:¬(131072:Int)<(r.length:Int):=by omega
  have e3:IntKind.u64.wrap (r.length:Int)=r.length:=am2 _ (by omega)
  have hz:=Fm.cB hlong
  clear e1 e2
  go_enter Tryz.func117,Tryz.ntmps117
  go_wp2_with fail
  refine(fO (.slice none 0 0) [] (r.length:Int) _ (Own.nil .u8 5 w.heap.size w).is (by simp) (by omega) (by omega)).mono ?_
  rintro E w1 ⟨v1,rfl,aX,aj⟩
  rw[List.nil_append,Int.toNat_natCast]at aX
  obtain⟨no,nc,hv,_,_⟩:=aX.is.shape
  subst hv
  generalize hvn:Value.slice no (Vm.enc r.length).length nc=v1 at*
  generalize hvb:Value.slice bo bs.length bc=vb at*
  obtain⟨w2,hw2,dz,au,B2⟩:=ak w1 #[vb,v1,.slice ro r.length rc] 61
  have row:zB w2 (.slice (some ⟨w1.heap.size,0,none⟩) 3 3) [⟨vb,bs⟩,⟨v1,Vm.enc r.length⟩,⟨.slice ro r.length rc,r⟩]:=by
   refine⟨?_,?_⟩
   ·obtain⟨W,hW,_,_,ho⟩:=rR bwc 1 ahL 61 w1 #[vb,v1,.slice ro r.length rc] 3 [⟨vb,bs⟩,⟨v1,Vm.enc r.length⟩,⟨.slice ro r.length rc,r⟩] rfl rfl (by unfold maxLen;omega)
    rw[←hw2,hW]
    exact ho.row
   ·intro a ha
    simp at ha
    rcases ha with rfl|rfl|rfl
    ·exact(HB.out.below aj).below au
    ·exact(aX.below au).is
    ·exact(HR.out.below aj).below au
  have szs:=aj.size
  have HC:=hide (ahR _ _ w2 row (by simp) (by simp[flt];have:(Vm.enc r.length).length≤3:=hz;omega))
  have b02:Below w.heap.size w w2:=aj.trans (au.mono szs)
  clear aX row aj au B2
  subst hvn hvb
  go_wp2_with fail
  refine HC.out.mono ?_
  rintro E w3 ⟨v3,rfl,bD,aD⟩
  have aW:Own .u8 5 w2.heap.size w3 v3 (bs++Fm.bT r):=by simpa[flt,Fm.bT]using bD
  clear HC bD
  go_wp2
  go_ret2
  exact⟨_,rfl,aW.bu (by omega),b02.trans (aD.mono (by omega))⟩
 ·have e1:wN r=3:=if_neg hlong
  have e2:xK bs r=[]:=if_neg hlong
  rw[e1,e2]
  have hn:(131072:Int)<(r.length:Int):=by omega
  go_enter Tryz.func117,Tryz.ntmps117
  go_wp2
  go_ret2
  exact⟨_,rfl,Own.nil _ _ _ _,Below.refl _ _⟩
theorem rP {bs:List Int}{most:Nat}{u i g:Int}(hm:most<18446744073709551616)(h:zK bs most u i g):
  (∃x:Nat,u=x∧i=Vm.sz x∧g=0∧x≤most∧Vm.enc x<+:bs)∨(u=0∧i=0∧g=5∧∀x:Nat,x≤most→¬Vm.enc x<+:bs):=by
 rcases h with⟨hR,h1,h2,he⟩|⟨hu,hi,he,x,n,f,hR,hcase⟩
 ·rcases hR with⟨x,hx,hp,h3,h4,_⟩|⟨_,_,_,h5⟩
  ·exact .inl ⟨x,h3,h4,he,by omega,hp⟩
  ·simp at h5
 ·refine .inr ⟨hu,hi,he,fun y hy hp=>?_⟩
  have:=Vm.uU hR (u:=y) (by omega) hp
  omega
theorem at6 {bs:List Int}(h:∀x:Nat,x≤131072→¬Vm.enc x<+:bs):Fm.Rd bs [] 0 5:=.inr ⟨rfl,rfl,rfl,fun s hs hp=>h _ hs (Fm.abB hp).1⟩
theorem anz {bs:List Int}{x:Nat}(h:Vm.enc x<+:bs)(hx:bs.length-Vm.sz x<x):Fm.Rd bs [] 0 5:=.inr ⟨rfl,rfl,rfl,fun s hs hp=>by
 obtain⟨h1,h2,_⟩:=Fm.abB hp
 have:=Vm.bQ bs _ _ h h1
 subst this
 omega⟩
theorem asJ {bs:List Int}{x:Nat}(h:Vm.enc x<+:bs)(h':x≤131072)(hx:x≤bs.length-Vm.sz x):Fm.Rd bs ((bs.drop (Vm.sz x)).take x) (Vm.sz x+x) 0:=by
 obtain⟨h1,h2⟩:=Fm.awk h hx
 exact .inl ⟨rfl,by omega,by rw[h1],h2⟩
theorem oJ (vb:Value)(bs:List Int)(w:World)(hb:Is .u8 w vb bs)(hl:bs.length≤150000000000000):
  Calls Tryz.prog 90 #[vb] w fun E w'=>∃(v:Value) (r:List Int) (n:Nat) (e:Int),E=.returned (.tuple #[v,.int .i64 n,.int .i64 e])∧Own .u8 5 w.heap.size w' v r∧Below w.heap.size w w'∧Hid (Fm.Rd bs r n e):=by
 obtain⟨u,i,g,hS⟩:=nD bs ((131072:Nat):Int)
 have HS:=hide (jZ vb bs _ u i g w hb hl (by omega) (by omega) hS)
 rcases rP (by omega) hS with⟨x,rfl,rfl,rfl,hx,hp⟩|⟨rfl,rfl,rfl,hno⟩
 ·have hz:=Fm.cB hx
  have hpl:Vm.sz x≤bs.length:=hp.length_le
  by_cases hlong:x≤bs.length-Vm.sz x
  ·have R:=hide (asJ hp hx hlong)
   obtain⟨vs,hsl,eQ⟩:=hb.uO Tryz.kW Tryz.mG (Vm.sz x) (Vm.sz x+x) (by omega) (by omega)
   rw[show Vm.sz x+x-Vm.sz x=x by omega]at eQ
   have hlt:((bs.drop (Vm.sz x)).take x).length≤131072:=by rw[List.length_take,List.length_drop];omega
   have HC:=hide (pX vs _ w eQ (by omega))
   obtain⟨ao,cap,hv,hcap,hcm⟩:=hb.shape
   subst hv
   clear hb eQ hlt hS hp
   generalize (bs.drop (Vm.sz x)).take x=r at*
   generalize Vm.sz x=m at*
   have e1:IntKind.i64.wrap ((bs.length:Int)-(m:Int))=(bs.length:Int)-m:=aS _ (by omega) (by omega)
   have e2:IntKind.i64.wrap ((m:Int)+(x:Int))=(m:Int)+x:=aS _ (by omega) (by omega)
   have e3:¬(bs.length:Int)-m<x:=by omega
   have hsl2:∀wx,(Instr.slice 61 (.slice ao bs.length cap) (some (.int .i64 (m:Int))) (some (.int .i64 ((m:Int)+(x:Int)))) none).run Tryz.prog wx=.ok vs wx:=by simpa using hsl
   clear hsl
   go_enter Tryz.func90,Tryz.ntmps90
   go_wp2_with fail
   refine HS.out.mono ?_
   rintro E w1 ⟨rfl,rfl⟩
   clear HS
   go_wp2_with fail
   refine HC.out.mono ?_
   rintro E w2 ⟨v2,rfl,aP,au⟩
   clear HC hsl2
   go_wp2
   go_ret3
   exact⟨v2,r,m+x,0,by simp,aP,au,R⟩
  ·have R:=hide (anz hp (by omega))
   obtain⟨ao,cap,hv,hcap,hcm⟩:=hb.shape
   subst hv
   clear hb hS hp
   generalize Vm.sz x=m at*
   have e1:IntKind.i64.wrap ((bs.length:Int)-(m:Int))=(bs.length:Int)-m:=aS _ (by omega) (by omega)
   have e3:(bs.length:Int)-m<x:=by omega
   go_enter Tryz.func90,Tryz.ntmps90
   go_wp2_with fail
   refine HS.out.mono ?_
   rintro E w1 ⟨rfl,rfl⟩
   clear HS
   go_wp2
   go_ret3
   exact⟨_,[],0,5,rfl,Own.nil _ _ _ _,Below.refl _ _,R⟩
 ·have R:=hide (at6 hno)
  clear hb hS hno
  go_enter Tryz.func90,Tryz.ntmps90
  go_wp2_with fail
  refine HS.out.mono ?_
  rintro E w1 ⟨rfl,rfl⟩
  clear HS
  go_wp2
  go_ret3
  exact⟨_,[],0,5,rfl,Own.nil _ _ _ _,Below.refl _ _,R⟩
def vp (x:Pm.Pg):Value:=.agg #[.int .i64 x.e,.int .u8 x.r,.int .i64 x.a,.int .u8 x.p,.int .i64 x.f,.int .i64 x.b]
def cp (x:Pm.Pg):Array Value:=#[.int .i64 x.e,.int .u8 x.r,.int .i64 x.a,.int .u8 x.p,.int .i64 x.f,.int .i64 x.b]
def vn (x:Pm.Pg):Value:=.agg #[.int .i64 x.e,.int .i64 x.r,.int .i64 x.a,.int .i64 x.p,.int .i64 x.f,.int .i64 x.b]
def eU (x:Pm.Pg):Prop:=-9223372036854775808≤x.e∧x.e<9223372036854775808∧0≤x.r∧x.r<256∧-9223372036854775808≤x.a∧x.a<9223372036854775808∧0≤x.p∧x.p<256∧-9223372036854775808≤x.f∧x.f<9223372036854775808∧-9223372036854775808≤x.b∧x.b<9223372036854775808
theorem mq {x:Pm.Pg}(h:Pm.Ok x):eU x:=by
 have:=Pm.l9 h
 unfold eU
 omega
structure vJ (w:World) (g:Nat) (a b c d e f:Value):Prop where
 c0:w.cell? ⟨g,0,none⟩=some a
 c1:w.cell? ⟨g,1,none⟩=some b
 c2:w.cell? ⟨g,2,none⟩=some c
 c3:w.cell? ⟨g,3,none⟩=some d
 c4:w.cell? ⟨g,4,none⟩=some e
 c5:w.cell? ⟨g,5,none⟩=some f
theorem aN {w:World}{g:Nat}{t:TypeId}{fr:Nat×Nat}{a b c d e f:Value}(h:w.heap[g]? =some (.cells #[a,b,c,d,e,f] t fr)):vJ w g a b c d e f:=
 ⟨ai h 0 rfl,ai h 1 rfl,ai h 2 rfl,ai h 3 rfl,ai h 4 rfl,ai h 5 rfl⟩
theorem eu {V:World}{R:Nat}{t:TypeId}{x0 x1 x2 x3 x4 x5:Value}(hR:V.heap[R]? =some (.cells #[x0,x1,x2,x3,x4,x5] t (0,0)))(a b c d e f:Value):
  ∃V',(((((V.setCell ⟨R,0,none⟩ a).setCell ⟨R,1,none⟩ b).setCell ⟨R,2,none⟩ c).setCell ⟨R,3,none⟩ d).setCell ⟨R,4,none⟩ e).setCell ⟨R,5,none⟩ f=V'∧V'.heap[R]? =some (.cells #[a,b,c,d,e,f] t (0,0))∧V.grownBy V' (some R)∧
   vJ V R x0 x1 x2 x3 x4 x5∧(∀j,V.frozen? ⟨R,j,none⟩=false)∧vJ V' R a b c d e f:=by
 have h:=aH (aH (aH (aH (aH (aH hR 0 a) 1 b) 2 c) 3 d) 4 e) 5 f
 refine⟨_,rfl,h,?_,aN hR,aA hR,aN h⟩
 exact aG (aG (aG (aG (aG (az V ⟨R,0,none⟩ a) (az _ ⟨R,1,none⟩ b)) (az _ ⟨R,2,none⟩ c)) (az _ ⟨R,3,none⟩ d)) (az _ ⟨R,4,none⟩ e)) (az _ ⟨R,5,none⟩ f)
theorem uG (w:World)(t:TypeId)(x0 x1 x2 x3 x4 x5 a b c d e f:Value):
  ∃V,((((((w.alloc (.cells #[x0,x1,x2,x3,x4,x5] t)).setCell ⟨w.heap.size,0,none⟩ a).setCell ⟨w.heap.size,1,none⟩ b).setCell ⟨w.heap.size,2,none⟩ c).setCell ⟨w.heap.size,3,none⟩ d).setCell ⟨w.heap.size,4,none⟩ e).setCell ⟨w.heap.size,5,none⟩ f=V∧w.alloc (.cells #[a,b,c,d,e,f] t)=V∧V.heap.size=w.heap.size+1∧Below w.heap.size w V∧V.heap[w.heap.size]? =some (.cells #[a,b,c,d,e,f] t (0,0))∧vJ V w.heap.size a b c d e f:=by
 obtain⟨V,h1,h2,h3,h4⟩:=ak w #[a,b,c,d,e,f] t
 refine⟨V,?_,h1,h2,h3,h4,aN h4⟩
 rw[←h1]
 simp[go_sem]
def fst (n:Int):Pm.Pg:=if n=0 then⟨1,1,0,0,0,0⟩else if n=1 then⟨1,2,0,0,0,0⟩else Pm.no
def fse (n:Int):Int:=if n=0 then 0 else if n=1 then 0 else 2
theorem acL (n:Int)(w:World):
  Calls Tryz.prog 101 #[.int .i64 n] w fun E w'=>E=.returned (.tuple #[vp (fst n),.int .i64 (fse n)])∧Below w.heap.size w w':=by
 obtain⟨w1,hw1,aT,aj,hB⟩:=ak w #[.int .i64 0,.int .u8 0,.int .i64 0,.int .u8 0,.int .i64 0,.int .i64 0] 46
 unfold fst fse vp
 go_enter Tryz.func101,Tryz.ntmps101
 by_cases h0:n=0
 ·have h0':(n==0)=true:=by simp[h0]
  rw[if_pos h0,if_pos h0]
  obtain⟨V,hV,bV,gV,⟨a0,a1,a2,a3,a4,a5⟩,fr,⟨z0,z1,z2,z3,z4,z5⟩⟩:=eu hB (.int .i64 1) (.int .u8 1) (.int .i64 0) (.int .u8 0) (.int .i64 0) (.int .i64 0)
  have f0:=fr 0;have f1:=fr 1;have f2:=fr 2;have f3:=fr 3;have f4:=fr 4;have f5:=fr 5
  have aF:=aB aj gV (Nat.le_refl _) (by omega)
  clear h0 hB bV gV fr aj
  go_wp2
  refine bodyPost_ret (v:=.tuple #[.agg #[.int .i64 1,.int .u8 1,.int .i64 0,.int .u8 0,.int .i64 0,.int .i64 0],.int .i64 0]) (by simp[results,Tryz.results101,go_sem,z0,z1,z2,z3,z4,z5]) rfl ?_
  exact⟨rfl,aF⟩
 ·have h0':(n==0)=false:=by simp[h0]
  rw[if_neg h0,if_neg h0]
  by_cases h1:n=1
  ·have h1':(n==1)=true:=by simp[h1]
   rw[if_pos h1,if_pos h1]
   obtain⟨V,hV,bV,gV,⟨a0,a1,a2,a3,a4,a5⟩,fr,⟨z0,z1,z2,z3,z4,z5⟩⟩:=eu hB (.int .i64 1) (.int .u8 2) (.int .i64 0) (.int .u8 0) (.int .i64 0) (.int .i64 0)
   have f0:=fr 0;have f1:=fr 1;have f2:=fr 2;have f3:=fr 3;have f4:=fr 4;have f5:=fr 5
   have aF:=aB aj gV (Nat.le_refl _) (by omega)
   clear h0 h1 hB bV gV fr aj
   go_wp2
   refine bodyPost_ret (v:=.tuple #[.agg #[.int .i64 1,.int .u8 2,.int .i64 0,.int .u8 0,.int .i64 0,.int .i64 0],.int .i64 0]) (by simp[results,Tryz.results101,go_sem,z0,z1,z2,z3,z4,z5]) rfl ?_
   exact⟨rfl,aF⟩
  ·have h1':(n==1)=false:=by simp[h1]
   rw[if_neg h1,if_neg h1]
   obtain⟨V,hV,bV,gV,⟨a0,a1,a2,a3,a4,a5⟩,fr,⟨z0,z1,z2,z3,z4,z5⟩⟩:=eu hB (.int .i64 0) (.int .u8 0) (.int .i64 0) (.int .u8 0) (.int .i64 0) (.int .i64 0)
   have f0:=fr 0;have f1:=fr 1;have f2:=fr 2;have f3:=fr 3;have f4:=fr 4;have f5:=fr 5
   have aF:=aB aj gV (Nat.le_refl _) (by omega)
   clear h0 h1 hB bV gV fr aj
   go_wp2
   refine bodyPost_ret (v:=.tuple #[.agg #[.int .i64 0,.int .u8 0,.int .i64 0,.int .u8 0,.int .i64 0,.int .i64 0],.int .i64 2]) (by simp[results,Tryz.results101,go_sem,z0,z1,z2,z3,z4,z5]) rfl ?_
   exact⟨rfl,aF⟩
theorem ad6 (z:Int)(h0:0≤z)(h1:z<256):IntKind.i64.wrap z=z:=aS z (by omega) (by omega)
theorem vI (x:Pm.Pg)(w:World)(hx:eU x):
  Calls Tryz.prog 84 #[vp x] w fun E w'=>E=.returned (vn x)∧Below w.heap.size w w':=by
 unfold vp vn
 obtain⟨g1,g2,g3,g4,g5,g6,g7,g8,g9,g10,g11,g12⟩:=hx
 obtain⟨w1,hw1,aT,aj,hB⟩:=ak w #[.int .i64 x.e,.int .u8 x.r,.int .i64 x.a,.int .u8 x.p,.int .i64 x.f,.int .i64 x.b] 46
 obtain⟨w2,hw2,dz,au,hC⟩:=ak w1 #[.int .i64 0,.int .i64 0,.int .i64 0,.int .i64 0,.int .i64 0,.int .i64 0] 131
 obtain⟨c0,c1,c2,c3,c4,c5⟩:=aN ((au.block _ (ax hB)).trans hB)
 rw[aT]at hC
 obtain⟨V,hV,bV,gV,⟨a0,a1,a2,a3,a4,a5⟩,fr,⟨z0,z1,z2,z3,z4,z5⟩⟩:=eu hC (.int .i64 x.e) (.int .i64 x.r) (.int .i64 x.a) (.int .i64 x.p) (.int .i64 x.f) (.int .i64 x.b)
 have f0:=fr 0;have f1:=fr 1;have f2:=fr 2;have f3:=fr 3;have f4:=fr 4;have f5:=fr 5
 have aF:=aB (aj.trans (au.mono (by omega))) gV (by omega) (by omega)
 have e1:=ad6 x.r g3 g4
 have e2:=ad6 x.p g7 g8
 clear hB hC bV gV fr aj au
 go_enter Tryz.func84,Tryz.ntmps84
 go_wp2
 refine bodyPost_ret (v:=.agg #[.int .i64 x.e,.int .i64 x.r,.int .i64 x.a,.int .i64 x.p,.int .i64 x.f,.int .i64 x.b]) (by simp[results,Tryz.results84,go_sem,z0,z1,z2,z3,z4,z5]) rfl ?_
 exact⟨rfl,aF⟩
def same (x y:Pm.Pg):Bool:=x.e==y.e&&x.r==y.r&&x.a==y.a&&x.p==y.p&&x.f==y.f&&x.b==y.b
theorem af3 {x y:Pm.Pg}:same x y=true↔x=y:=by
 constructor
 ·intro h
  simp[same]at h
  exact Pm.Pg.eq h.1.1.1.1.1 h.1.1.1.1.2 h.1.1.1.2 h.1.1.2 h.1.2 h.2
 ·rintro rfl
  simp[same]
theorem Tryz.af9 (a b c d e f a' b' c' d' e' f':Int)(w:World):(binOp .eql 46 (.agg #[.int .i64 a,.int .u8 b,.int .i64 c,.int .u8 d,.int .i64 e,.int .i64 f]) (.agg #[.int .i64 a',.int .u8 b',.int .i64 c',.int .u8 d',.int .i64 e',.int .i64 f'])).run Tryz.prog w=.ok (.bool (a==a'&&b==b'&&c==c'&&d==d'&&e==e'&&f==f')) w:=by
 rw[run_eql_struct,run_equalIn_agg w 9999 46 _ _ (by kernel_rfl) (by kernel_rfl)]
 unfold Program.fieldsOf
 rw[Tryz.underlying46]
 simp[Op.eqFields,go_sem,Tryz.underlying23,Tryz.underlying44,Tryz.underlying3]
 by_cases h1:a=a'<;>by_cases h2:b=b'<;>by_cases h3:c=c'<;>by_cases h4:d=d'<;>by_cases h5:e=e'<;>by_cases h6:f=f'<;>simp[h1,h2,h3,h4,h5,h6]
def eH (w:World):Prop:=vJ w 0 (.int .i64 1048576) (.int .i64 3) (.int .i64 1048576) (.int .i64 4) (.int .i64 1048576) (.int .i64 1073741824)
theorem eH.pos {w:World}(h:eH w):0<w.heap.size:=by
 have:=h.c0
 rcases Nat.lt_or_ge 0 w.heap.size with h'|h'
 ·exact h'
 ·have:w.heap[0]? =none:=Array.getElem?_eq_none (by omega)
  have h0:=h.c0
  simp[World.cell?,this]at h0
theorem eH.below {w w':World}(h:eH w)(b:Below w.heap.size w w'):eH w':=by
 have hp:=h.pos
 have e:∀j,w'.cell? ⟨0,j,none⟩=w.cell? ⟨0,j,none⟩:=fun j=>b.cell (p:=⟨0,j,none⟩) hp
 exact⟨(e 0).trans h.c0,(e 1).trans h.c1,(e 2).trans h.c2,(e 3).trans h.c3,(e 4).trans h.c4,(e 5).trans h.c5⟩
def gz:List Int:=[1048576,3,1048576,4,1048576,1073741824]
def Up (x:Pm.Pg) (k:Nat):Prop:=∀i,i<k→0≤(Pm.nums x).getD i 0∧(Pm.nums x).getD i 0≤gz.getD i 0
theorem Up.next {x:Pm.Pg}{k:Nat}(h:Up x k)(h0:0≤(Pm.nums x).getD k 0)(h1:(Pm.nums x).getD k 0≤gz.getD k 0):Up x (k+1):=by
 intro i hi
 by_cases e:i=k
 ·subst e;exact⟨h0,h1⟩
 ·exact h i (by omega)
def upx (x:Pm.Pg):Bool:=decide (0≤x.e∧x.e≤1048576∧0≤x.r∧x.r≤3∧0≤x.a∧x.a≤1048576∧0≤x.p∧x.p≤4∧0≤x.f∧x.f≤1048576∧0≤x.b∧x.b≤1073741824)
theorem abw {x:Pm.Pg}:upx x=true↔Up x 6:=by
 unfold upx
 rw[decide_eq_true_iff]
 refine⟨fun h i hi=>?_,fun h=>?_⟩
 ·obtain rfl|rfl|rfl|rfl|rfl|rfl:i=0∨i=1∨i=2∨i=3∨i=4∨i=5:=by omega
  all_goals simp[Pm.nums,gz];omega
 ·have h0:=h 0 (by omega);have h1:=h 1 (by omega);have h2:=h 2 (by omega);have h3:=h 3 (by omega);have h4:=h 4 (by omega);have h5:=h 5 (by omega)
  simp[Pm.nums,gz]at h0 h1 h2 h3 h4 h5
  omega
theorem jg {x:Pm.Pg}(h:¬Up x 6):upx x=false:=by
 cases hu:upx x with
 |false=>rfl
 |true=>exact absurd (abw.1 hu) h
theorem ja {x:Pm.Pg}(h:Up x 6):0≤x.e∧x.e≤1048576∧0≤x.r∧x.r≤3∧0≤x.a∧x.a≤1048576∧0≤x.p∧x.p≤4∧0≤x.f∧x.f≤1048576∧0≤x.b∧x.b≤1073741824:=by
 have h0:=h 0 (by omega);have h1:=h 1 (by omega);have h2:=h 2 (by omega);have h3:=h 3 (by omega);have h4:=h 4 (by omega);have h5:=h 5 (by omega)
 simp[Pm.nums,gz]at h0 h1 h2 h3 h4 h5
 omega
theorem gJ {a b:Bool}(h:b=a):Ending.returned (.bool a)=.returned (.bool b):=by rw[h]
theorem Tryz.av9 (a b c d e f:Int)(w:World):(Instr.index 131 (.agg #[.int .i64 a,.int .i64 b,.int .i64 c,.int .i64 d,.int .i64 e,.int .i64 f]) (.int .i64 0)).run Tryz.prog w=.ok (.int .i64 a) w:=by kernel_rfl
theorem Tryz.axa (a b c d e f:Int)(w:World):(Instr.index 131 (.agg #[.int .i64 a,.int .i64 b,.int .i64 c,.int .i64 d,.int .i64 e,.int .i64 f]) (.int .i64 1)).run Tryz.prog w=.ok (.int .i64 b) w:=by kernel_rfl
theorem Tryz.awN (a b c d e f:Int)(w:World):(Instr.index 131 (.agg #[.int .i64 a,.int .i64 b,.int .i64 c,.int .i64 d,.int .i64 e,.int .i64 f]) (.int .i64 2)).run Tryz.prog w=.ok (.int .i64 c) w:=by kernel_rfl
theorem Tryz.atj (a b c d e f:Int)(w:World):(Instr.index 131 (.agg #[.int .i64 a,.int .i64 b,.int .i64 c,.int .i64 d,.int .i64 e,.int .i64 f]) (.int .i64 3)).run Tryz.prog w=.ok (.int .i64 d) w:=by kernel_rfl
theorem Tryz.as9 (a b c d e f:Int)(w:World):(Instr.index 131 (.agg #[.int .i64 a,.int .i64 b,.int .i64 c,.int .i64 d,.int .i64 e,.int .i64 f]) (.int .i64 4)).run Tryz.prog w=.ok (.int .i64 e) w:=by kernel_rfl
theorem Tryz.atf (a b c d e f:Int)(w:World):(Instr.index 131 (.agg #[.int .i64 a,.int .i64 b,.int .i64 c,.int .i64 d,.int .i64 e,.int .i64 f]) (.int .i64 5)).run Tryz.prog w=.ok (.int .i64 f) w:=by kernel_rfl
theorem aeF (x:Pm.Pg)(w:World)(hx:eU x)(hm:eH w):
  Calls Tryz.prog 83 #[vn x] w fun E w'=>E=.returned (.bool (upx x))∧Below w.heap.size w w':=by
 unfold vn
 obtain⟨g1,g2,g3,g4,g5,g6,g7,g8,g9,g10,g11,g12⟩:=hx
 obtain⟨w1,hw1,aT,aj,hB⟩:=ak w #[.int .i64 x.e,.int .i64 x.r,.int .i64 x.a,.int .i64 x.p,.int .i64 x.f,.int .i64 x.b] 131
 obtain⟨c0,c1,c2,c3,c4,c5⟩:=aN hB
 obtain⟨m0,m1,m2,m3,m4,m5⟩:=hm.below aj
 obtain⟨r,hr⟩:∃r,upx x=r:=⟨_,rfl⟩
 rw[hr]
 have HR:=hide hr
 clear hB hr hm
 go_enter Tryz.func83,Tryz.ntmps83
 go_wp2
 go_loop [6] (fun kk=>∃k:Nat,k≤6∧kk=.int .i64 k∧Hid (Up x k)) (fun kk=>7-(intOf kk).toNat)
 case atStart=>exact⟨0,by omega,rfl,fun i hi=>by omega⟩
 case round=>
  obtain⟨k,hk,rfl,hu⟩:=hrel
  rcases(show k=0∨k=1∨k=2∨k=3∨k=4∨k=5∨k=6 by omega)with rfl|rfl|rfl|rfl|rfl|rfl|rfl
  ·have hix:=Tryz.av9 x.e x.r x.a x.p x.f x.b
   by_cases hlo:x.e<0
   ·have hbad:¬Up x 6:=fun h=>by have:=(ja h);omega
    go_wp2
    go_ret
    exact⟨gJ (by rw[←HR.out];exact jg hbad),aj⟩
   ·by_cases hhi:1048576<x.e
    ·have hbad:¬Up x 6:=fun h=>by have:=(ja h);omega
     go_wp2
     go_ret
     exact⟨gJ (by rw[←HR.out];exact jg hbad),aj⟩
    ·have hn:Hid (Up x 1):=hu.out.next (by simp[Pm.nums];omega) (by simp[Pm.nums,gz];omega)
     go_wp2
     go_round
     case rel=>exact⟨1,by omega,rfl,hn⟩
     case measure=>simp[intOf]
  ·have hix:=Tryz.axa x.e x.r x.a x.p x.f x.b
   by_cases hlo:x.r<0
   ·have hbad:¬Up x 6:=fun h=>by have:=(ja h);omega
    go_wp2
    go_ret
    exact⟨gJ (by rw[←HR.out];exact jg hbad),aj⟩
   ·by_cases hhi:3<x.r
    ·have hbad:¬Up x 6:=fun h=>by have:=(ja h);omega
     go_wp2
     go_ret
     exact⟨gJ (by rw[←HR.out];exact jg hbad),aj⟩
    ·have hn:Hid (Up x 2):=hu.out.next (by simp[Pm.nums];omega) (by simp[Pm.nums,gz];omega)
     go_wp2
     go_round
     case rel=>exact⟨2,by omega,rfl,hn⟩
     case measure=>simp[intOf]
  ·have hix:=Tryz.awN x.e x.r x.a x.p x.f x.b
   by_cases hlo:x.a<0
   ·have hbad:¬Up x 6:=fun h=>by have:=(ja h);omega
    go_wp2
    go_ret
    exact⟨gJ (by rw[←HR.out];exact jg hbad),aj⟩
   ·by_cases hhi:1048576<x.a
    ·have hbad:¬Up x 6:=fun h=>by have:=(ja h);omega
     go_wp2
     go_ret
     exact⟨gJ (by rw[←HR.out];exact jg hbad),aj⟩
    ·have hn:Hid (Up x 3):=hu.out.next (by simp[Pm.nums];omega) (by simp[Pm.nums,gz];omega)
     go_wp2
     go_round
     case rel=>exact⟨3,by omega,rfl,hn⟩
     case measure=>simp[intOf]
  ·have hix:=Tryz.atj x.e x.r x.a x.p x.f x.b
   by_cases hlo:x.p<0
   ·have hbad:¬Up x 6:=fun h=>by have:=(ja h);omega
    go_wp2
    go_ret
    exact⟨gJ (by rw[←HR.out];exact jg hbad),aj⟩
   ·by_cases hhi:4<x.p
    ·have hbad:¬Up x 6:=fun h=>by have:=(ja h);omega
     go_wp2
     go_ret
     exact⟨gJ (by rw[←HR.out];exact jg hbad),aj⟩
    ·have hn:Hid (Up x 4):=hu.out.next (by simp[Pm.nums];omega) (by simp[Pm.nums,gz];omega)
     go_wp2
     go_round
     case rel=>exact⟨4,by omega,rfl,hn⟩
     case measure=>simp[intOf]
  ·have hix:=Tryz.as9 x.e x.r x.a x.p x.f x.b
   by_cases hlo:x.f<0
   ·have hbad:¬Up x 6:=fun h=>by have:=(ja h);omega
    go_wp2
    go_ret
    exact⟨gJ (by rw[←HR.out];exact jg hbad),aj⟩
   ·by_cases hhi:1048576<x.f
    ·have hbad:¬Up x 6:=fun h=>by have:=(ja h);omega
     go_wp2
     go_ret
     exact⟨gJ (by rw[←HR.out];exact jg hbad),aj⟩
    ·have hn:Hid (Up x 5):=hu.out.next (by simp[Pm.nums];omega) (by simp[Pm.nums,gz];omega)
     go_wp2
     go_round
     case rel=>exact⟨5,by omega,rfl,hn⟩
     case measure=>simp[intOf]
  ·have hix:=Tryz.atf x.e x.r x.a x.p x.f x.b
   by_cases hlo:x.b<0
   ·have hbad:¬Up x 6:=fun h=>by have:=(ja h);omega
    go_wp2
    go_ret
    exact⟨gJ (by rw[←HR.out];exact jg hbad),aj⟩
   ·by_cases hhi:1073741824<x.b
    ·have hbad:¬Up x 6:=fun h=>by have:=(ja h);omega
     go_wp2
     go_ret
     exact⟨gJ (by rw[←HR.out];exact jg hbad),aj⟩
    ·have hn:Hid (Up x 6):=hu.out.next (by simp[Pm.nums];omega) (by simp[Pm.nums,gz];omega)
     go_wp2
     go_round
     case rel=>exact⟨6,by omega,rfl,hn⟩
     case measure=>simp[intOf]
  ·have hg:=hu.out
   go_wp2
   go_ret
   exact⟨gJ (by rw[←HR.out];exact abw.2 hg),aj⟩
theorem mi {V:World}{R:Nat}{t:TypeId}{cs:Array Value}(hR:V.heap[R]? =some (.cells cs t (0,0)))(j:Nat)(u:Value):
  ∃V',V.setCell ⟨R,j,none⟩ u=V'∧V'.heap[R]? =some (.cells (cs.setIfInBounds j u) t (0,0))∧V.grownBy V' (some R)∧V.frozen? ⟨R,j,none⟩=false:=
 ⟨_,rfl,aH hR j u,az _ _ _,aA hR j⟩
theorem axn {x:Pm.Pg}(h:x.r=1):(x.e==x.e&&x.r==x.r&&x.a==x.a&&x.p==0&&x.f==0&&x.b==0)=decide (Pm.Own x):=by
 rw[Bool.eq_iff_iff,decide_eq_true_iff];unfold Pm.Own;simp only[Bool.and_eq_true,beq_iff_eq,true_and,and_true];constructor<;>intro _<;>omega
theorem axd {x:Pm.Pg}(h:x.r=2):(x.e==x.e&&x.r==x.r&&x.a==0&&x.p==0&&x.f==0&&x.b==0)=decide (Pm.Own x):=by
 rw[Bool.eq_iff_iff,decide_eq_true_iff];unfold Pm.Own;simp only[Bool.and_eq_true,beq_iff_eq,true_and,and_true];constructor<;>intro _<;>omega
theorem axk {x:Pm.Pg}(h:x.r=3)(h':x.p=1):(x.e==x.e&&x.r==x.r&&x.a==0&&x.p==x.p&&x.f==0&&x.b==0)=decide (Pm.Own x):=by
 rw[Bool.eq_iff_iff,decide_eq_true_iff];unfold Pm.Own;simp only[Bool.and_eq_true,beq_iff_eq,true_and,and_true];constructor<;>intro _<;>omega
theorem axp {x:Pm.Pg}(h:x.r=3)(h':x.p=2∨x.p=3∨x.p=4):(x.e==x.e&&x.r==x.r&&x.a==0&&x.p==x.p&&x.f==x.f&&x.b==x.b)=decide (Pm.Own x):=by
 rw[Bool.eq_iff_iff,decide_eq_true_iff];unfold Pm.Own;simp only[Bool.and_eq_true,beq_iff_eq,true_and,and_true];constructor<;>intro _<;>omega
theorem axs {x:Pm.Pg}(h:x.r=3)(h2:x.p≠2)(h3:x.p≠3)(h4:x.p≠4)(h1:x.p≠1):false=decide (Pm.Own x):=by
 symm;rw[decide_eq_false_iff_not];unfold Pm.Own;omega
theorem axq {x:Pm.Pg}(h1:x.r≠1)(h2:x.r≠2)(h3:x.r≠3):false=decide (Pm.Own x):=by
 symm;rw[decide_eq_false_iff_not];unfold Pm.Own;omega
theorem adh (x:Pm.Pg)(w:World)(hx:eU x):
  Calls Tryz.prog 85 #[vp x] w fun E w'=>E=.returned (.bool (decide (Pm.Own x)))∧Below w.heap.size w w':=by
 unfold vp
 obtain⟨g1,g2,g3,g4,g5,g6,g7,g8,g9,g10,g11,g12⟩:=hx
 obtain⟨w1,hw1,aT,aj,hB⟩:=ak w #[.int .i64 x.e,.int .u8 x.r,.int .i64 x.a,.int .u8 x.p,.int .i64 x.f,.int .i64 x.b] 46
 obtain⟨a0,a1,a2,a3,a4,a5⟩:=aN hB
 obtain⟨w2,aac,hw2,dz,au,hC,_⟩:=uG w1 46 (.int .i64 0) (.int .u8 0) (.int .i64 0) (.int .u8 0) (.int .i64 0) (.int .i64 0) (.int .i64 x.e) (.int .u8 x.r) (.int .i64 0) (.int .u8 0) (.int .i64 0) (.int .i64 0)
 have hB2:=(au.block _ (ax hB)).trans hB
 rw[aT]at hC
 rw[aT]at aac
 have aF:=aj.trans (au.mono (by omega))
 obtain⟨c0,c1,c2,c3,c4,c5⟩:=aN hB2
 obtain⟨d0,d1,d2,d3,d4,d5⟩:=aN hC
 have s2:w2.setCell ⟨w.heap.size+1,2,none⟩ (.int .i64 0)=w2:=aJ hC (j:=2) rfl
 have s3:w2.setCell ⟨w.heap.size+1,3,none⟩ (.int .u8 0)=w2:=aJ hC (j:=3) rfl
 have s4:w2.setCell ⟨w.heap.size+1,4,none⟩ (.int .i64 0)=w2:=aJ hC (j:=4) rfl
 have s5:w2.setCell ⟨w.heap.size+1,5,none⟩ (.int .i64 0)=w2:=aJ hC (j:=5) rfl
 have f2:=aA hC 2
 have f3:=aA hC 3
 have f4:=aA hC 4
 have f5:=aA hC 5
 obtain⟨r,hr⟩:∃r,decide (Pm.Own x)=r:=⟨_,rfl⟩
 rw[hr]
 have HR:=hide hr
 clear hr
 go_enter Tryz.func85,Tryz.ntmps85
 by_cases h1:x.r=1
 ·have h1':(x.r==1)=true:=by simp[h1]
  obtain⟨V,hV,bV,gV,_⟩:=mi hC 2 (.int .i64 x.a)
  obtain⟨e0,e1,e2,e3,e4,e5⟩:=aN (show V.heap[w.heap.size+1]? =some (.cells #[.int .i64 x.e,.int .u8 x.r,.int .i64 x.a,.int .u8 0,.int .i64 0,.int .i64 0] 46 (0,0))from bV)
  obtain⟨k0,k1,k2,k3,k4,k5⟩:=aN ((gV.block w.heap.size (by omega) (by simp)).trans hB2)
  have q:=Tryz.af9 x.e x.r x.a x.p x.f x.b x.e x.r x.a 0 0 0
  rw[axn h1,HR.out]at q
  have bf:=aB aF gV (by omega) (by omega)
  clear h1 hB hC hB2 bV gV aF aj au
  go_wp2
  go_ret
  exact⟨rfl,bf⟩
 have h1':(x.r==1)=false:=by simpa using h1
 by_cases h2:x.r=2
 ·have h2':(x.r==2)=true:=by simp[h2]
  have q:=Tryz.af9 x.e x.r x.a x.p x.f x.b x.e x.r 0 0 0 0
  rw[axd h2,HR.out]at q
  clear h1 h2 hB hC hB2 aj au
  go_wp2
  go_ret
  exact⟨rfl,aF⟩
 have h2':(x.r==2)=false:=by simpa using h2
 by_cases h3:x.r=3
 ·have h3':(x.r==3)=true:=by simp[h3]
  by_cases p1:x.p=1
  ·have p1':(x.p==1)=true:=by simp[p1]
   have p2':(x.p==2)=false:=by simp;omega
   have p3':(x.p==3)=false:=by simp;omega
   have p4':(x.p==4)=false:=by simp;omega
   obtain⟨V,hV,bV,gV,_⟩:=mi hC 3 (.int .u8 x.p)
   obtain⟨e0,e1,e2,e3,e4,e5⟩:=aN (show V.heap[w.heap.size+1]? =some (.cells #[.int .i64 x.e,.int .u8 x.r,.int .i64 0,.int .u8 x.p,.int .i64 0,.int .i64 0] 46 (0,0))from bV)
   obtain⟨k0,k1,k2,k3,k4,k5⟩:=aN ((gV.block w.heap.size (by omega) (by simp)).trans hB2)
   have q:=Tryz.af9 x.e x.r x.a x.p x.f x.b x.e x.r 0 x.p 0 0
   rw[axk h3 p1,HR.out]at q
   have bf:=aB aF gV (by omega) (by omega)
   clear h1 h2 h3 p1 hB hC hB2 bV gV aF aj au
   go_wp2
   go_ret
   exact⟨rfl,bf⟩
  have p1':(x.p==1)=false:=by simpa using p1
  by_cases pp:x.p=2∨x.p=3∨x.p=4
  ·obtain⟨V4,hV4,bV4,wR,_⟩:=mi hC 4 (.int .i64 x.f)
   have b4:V4.heap[w.heap.size+1]? =some (.cells #[.int .i64 x.e,.int .u8 x.r,.int .i64 0,.int .u8 0,.int .i64 x.f,.int .i64 0] 46 (0,0)):=bV4
   have hB4:=(wR.block w.heap.size (by omega) (by simp)).trans hB2
   have lZ:=wR.size
   obtain⟨l0,l1,l2,l3,l4,l5⟩:=aN hB4
   obtain⟨y0,y1,y2,y3,y4,y5⟩:=aN b4
   obtain⟨V5,hV5,bV5,wP,n5⟩:=mi b4 5 (.int .i64 x.b)
   have b5:V5.heap[w.heap.size+1]? =some (.cells #[.int .i64 x.e,.int .u8 x.r,.int .i64 0,.int .u8 0,.int .i64 x.f,.int .i64 x.b] 46 (0,0)):=bV5
   have jO:=(wP.block w.heap.size (by omega) (by simp)).trans hB4
   have aK:=aB aF wR (by omega) (by omega)
   have aZ:=aB aK wP (by omega) (by omega)
   have tQ:=wP.size
   obtain⟨V,hV,bV,gV,n3⟩:=mi (V:=V5.drew) b5 3 (.int .u8 x.p)
   obtain⟨e0,e1,e2,e3,e4,e5⟩:=aN (show V.heap[w.heap.size+1]? =some (.cells #[.int .i64 x.e,.int .u8 x.r,.int .i64 0,.int .u8 x.p,.int .i64 x.f,.int .i64 x.b] 46 (0,0))from bV)
   have szd:V5.drew.heap.size=V5.heap.size:=rfl
   obtain⟨k0,k1,k2,k3,k4,k5⟩:=aN ((gV.block w.heap.size (by omega) (by simp)).trans jO)
   have t3:V5.drew.cell? ⟨w.heap.size,3,none⟩=some (.int .u8 x.p):=ai (w:=V5.drew) jO 3 rfl
   have t33:V5.drew.cell? ⟨w.heap.size+1,3,none⟩=some (.int .u8 0):=ai (w:=V5.drew) b5 3 rfl
   have bf:=aB aZ.drew gV (by omega) (by omega)
   have HH:=hide (And.intro hV (And.intro n3 (And.intro e0 (And.intro e1 (And.intro e2 (And.intro e3 (And.intro e4 (And.intro e5 (And.intro k0 (And.intro k1 (And.intro k2 (And.intro k3 (And.intro k4 (And.intro k5 (And.intro t3 t33)))))))))))))))
   clear hV n3 e0 e1 e2 e3 e4 e5 k0 k1 k2 k3 k4 k5 t3 t33 bV gV aZ
   have q:=Tryz.af9 x.e x.r x.a x.p x.f x.b x.e x.r 0 x.p x.f x.b
   rw[axp h3 pp,HR.out]at q
   rcases pp with pp|pp|pp
   ·have p2':(x.p==2)=true:=by simp[pp]
    clear h1 h2 h3 p1 pp hB hC hB2 bV4 wR b4 hB4 bV5 wP b5 jO aF aj au aK
    go_wp2
    go_region
    clear hV4 hV5 c0 c1 c2 c3 c4 c5 d0 d1 d2 d3 d4 d5 l0 l1 l2 l3 l4 l5 y0 y1 y2 y3 y4 y5 n5
    obtain⟨hV,n3,e0,e1,e2,e3,e4,e5,k0,k1,k2,k3,k4,k5,t3,t33⟩:=HH.out
    clear HH
    go_wp2
    go_ret
    exact⟨rfl,bf⟩
   ·have p2':(x.p==2)=false:=by simp;omega
    have p3':(x.p==3)=true:=by simp[pp]
    clear h1 h2 h3 p1 pp hB hC hB2 bV4 wR b4 hB4 bV5 wP b5 jO aF aj au aK
    go_wp2
    go_region
    clear hV4 hV5 c0 c1 c2 c3 c4 c5 d0 d1 d2 d3 d4 d5 l0 l1 l2 l3 l4 l5 y0 y1 y2 y3 y4 y5 n5
    obtain⟨hV,n3,e0,e1,e2,e3,e4,e5,k0,k1,k2,k3,k4,k5,t3,t33⟩:=HH.out
    clear HH
    go_wp2
    go_ret
    exact⟨rfl,bf⟩
   ·have p2':(x.p==2)=false:=by simp;omega
    have p3':(x.p==3)=false:=by simp;omega
    have p4':(x.p==4)=true:=by simp[pp]
    clear h1 h2 h3 p1 pp hB hC hB2 bV4 wR b4 hB4 bV5 wP b5 jO aF aj au aK
    go_wp2
    go_region
    clear hV4 hV5 c0 c1 c2 c3 c4 c5 d0 d1 d2 d3 d4 d5 l0 l1 l2 l3 l4 l5 y0 y1 y2 y3 y4 y5 n5
    obtain⟨hV,n3,e0,e1,e2,e3,e4,e5,k0,k1,k2,k3,k4,k5,t3,t33⟩:=HH.out
    clear HH
    go_wp2
    go_ret
    exact⟨rfl,bf⟩
  ·have p2':(x.p==2)=false:=by simp;omega
   have p3':(x.p==3)=false:=by simp;omega
   have p4':(x.p==4)=false:=by simp;omega
   have q:=axs h3 (by omega) (by omega) (by omega) p1
   rw[HR.out]at q
   subst q
   clear h1 h2 h3 p1 pp hB hC hB2 aj au HR
   go_wp2
   go_ret
   exact⟨rfl,aF⟩
 ·have h3':(x.r==3)=false:=by simpa using h3
  have q:=axq h1 h2 h3
  rw[HR.out]at q
  subst q
  clear h1 h2 h3 hB hC hB2 aj au HR
  go_wp2
  go_ret
  exact⟨rfl,aF⟩
theorem wB (x:Pm.Pg):(x.e<1→Pm.chk x=2)∧(¬Up x 6→Pm.chk x=2)∧(¬Pm.Own x→Pm.chk x=2)∧(¬x.e<1→Up x 6→Pm.Own x→Pm.chk x=0):=by
 refine⟨fun h=>Pm.ik fun ho=>?_,fun h=>Pm.ik fun ho=>h ?_,fun h=>Pm.ik fun ho=>h ho.2,fun h1 h2 h3=>Pm.fZ ⟨?_,h3⟩⟩
 ·have:=Pm.l9 ho;omega
 ·have:=Pm.l9 ho
  intro i hi
  obtain rfl|rfl|rfl|rfl|rfl|rfl:i=0∨i=1∨i=2∨i=3∨i=4∨i=5:=by omega
  all_goals simp[Pm.nums,gz];omega
 ·have:=ja h2
  unfold Pm.Bnd
  omega
theorem iQ (x:Pm.Pg)(w:World)(hx:eU x)(hm:eH w):
  Calls Tryz.prog 32 #[vp x] w fun E w'=>E=.returned (.int .i64 (Pm.chk x))∧Below w.heap.size w w':=by
 obtain⟨t1,t2,t3,t4⟩:=wB x
 obtain⟨w1,hw1,aT,aj,hB⟩:=ak w #[.int .i64 x.e,.int .u8 x.r,.int .i64 x.a,.int .u8 x.p,.int .i64 x.f,.int .i64 x.b] 46
 have HV:Hid (vp x=.agg #[.int .i64 x.e,.int .u8 x.r,.int .i64 x.a,.int .u8 x.p,.int .i64 x.f,.int .i64 x.b]):=rfl
 obtain⟨c0,c1,c2,c3,c4,c5⟩:=aN hB
 have HB:=hide hB
 have HM:=hide (hm.below aj)
 have g:=hx
 obtain⟨ch,hch⟩:∃c,Pm.chk x=c:=⟨_,rfl⟩
 rw[hch]at t1 t2 t3 t4⊢
 have T1:=hide t1;have T2:=hide t2;have T3:=hide t3;have T4:=hide t4
 rw[HV.out]
 clear hB hm hch t1 t2 t3 t4
 obtain⟨g1,g2,g3,g4,g5,g6,g7,g8,g9,g10,g11,g12⟩:=g
 have HX:=hide hx
 clear hx
 go_enter Tryz.func32,Tryz.ntmps32
 by_cases h1:x.e<1
 ·have q:=T1.out h1
  subst q
  clear T1 T2 T3 T4
  go_wp2
  go_ret
  exact⟨rfl,aj⟩
 go_wp2_with fail
 refine(vI x _ HX.out).mono ?_
 rintro E w2 ⟨rfl,au⟩
 have dz:=au.size
 have hB2:=(au.block _ (by omega)).trans HB.out
 have HM2:=hide (HM.out.below au)
 have aL:=aj.trans (au.mono (by omega))
 have HB2:=hide hB2
 clear HB HM hB2 c0 c1 c2 c3 c4 c5
 go_wp2_with fail
 refine(aeF x _ HX.out HM2.out).mono ?_
 rintro E w3 ⟨rfl,aD⟩
 have cB:=aD.size
 have hB3:=(aD.block _ (by omega)).trans HB2.out
 have aY:=aL.trans (aD.mono (by omega))
 obtain⟨c0,c1,c2,c3,c4,c5⟩:=aN hB3
 clear HB2 hB3 aj au aD aL
 by_cases h2:Up x 6
 ·rw[abw.2 h2]
  have H2:=hide h2
  clear h2
  go_wp2_with fail
  refine(adh x _ HX.out).mono ?_
  rintro E w4 ⟨rfl,aK⟩
  have dW:=aY.trans (aK.mono (by omega))
  by_cases h3:Pm.Own x
  ·rw[decide_eq_true h3]
   have q:=T4.out h1 H2.out h3
   subst q
   clear h3 T1 T2 T3 T4
   go_wp2
   go_ret
   exact⟨rfl,dW⟩
  ·rw[decide_eq_false h3]
   have q:=T3.out h3
   subst q
   clear h3 T1 T2 T3 T4
   go_wp2
   go_ret
   exact⟨rfl,dW⟩
 ·rw[jg h2]
  have q:=T2.out h2
  subst q
  clear h2 T1 T2 T3 T4
  go_wp2
  go_ret
  exact⟨rfl,aY⟩
theorem sM {V:World}{R:Nat}{t:TypeId}{x y z:Value}(hR:V.heap[R]? =some (.cells #[x,y,z] t (0,0)))(c:Value):
  ∃V',V.setCell ⟨R,2,none⟩ c=V'∧V'.heap[R]? =some (.cells #[x,y,c] t (0,0))∧V.grownBy V' (some R)∧V.cell? ⟨R,2,none⟩=some z∧V.frozen? ⟨R,2,none⟩=false:=
 ⟨_,rfl,aH hR 2 c,az V ⟨R,2,none⟩ c,ai hR 2 rfl,aA hR 2⟩
theorem oK (e n:Int)(v:Value)(l:List Bm.Ov)(w:World)(h:dh w v l)(hl:l.length*40≤140737488351232):
  Calls Tryz.prog 35 #[bK e n v] w fun E w'=>∃v',E=.returned (bK e n v')∧bg 111 w.heap.size w' v' l∧Below w.heap.size w w':=by
 unfold bK
 obtain⟨w1,hw1,aT,aj,hB⟩:=ak w #[.int .i64 e,.int .i64 n,v] 35
 obtain⟨w2,hw2,dz,au,hR⟩:=ak w1 #[.int .i64 0,.int .i64 0,.slice none 0 0] 35
 rw[aT]at hR
 have hB2:=(au.block w.heap.size (by omega)).trans hB
 have aL:Below w.heap.size w w2:=aj.trans (au.mono (by omega))
 have h2:=h.below aL
 obtain⟨ao,cap,rfl,_,_⟩:=h.shape
 have c2:=ai hB2 2 rfl
 have HB:=hide hB2
 have HR:=hide hR
 clear hB hB2 hR aj au
 go_enter Tryz.func35,Tryz.ntmps35
 go_wp2_with fail
 refine(aiy _ l _ h2 hl).mono ?_
 rintro E w3 ⟨v3,rfl,bD,aD⟩
 have cB:=aD.size
 have hB3:=(aD.block w.heap.size (by omega)).trans HB.out
 have bM:=(aD.block (w.heap.size+1) (by omega)).trans HR.out
 have aY:=aL.trans (aD.mono (by omega))
 obtain⟨ah,ch,hvl,_,_⟩:=bD.is.shape
 subst hvl
 obtain⟨X,hX,cX,gX,q2,q3⟩:=sM hB3 (.slice ah l.length ch)
 have szX:=gX.size
 have vT:=(gX.block (w.heap.size+1) (by omega) (by simp)).trans bM
 have auP:=bD.aaL gX (by omega)
 have aqf:=aB aY gX (Nat.le_refl _) (by omega)
 have d0:=ai cX 0 rfl
 have d1:=ai cX 1 rfl
 have d2:=ai cX 2 rfl
 obtain⟨V',hV',dN,cZ,⟨a0,a1,a2⟩,⟨f0,f1,f2⟩,⟨z0,z1,z2⟩⟩:=dP vT (.int .i64 e) (.int .i64 n) (.slice ah l.length ch)
 have fE:=aB aqf cZ (by omega) (by omega)
 have aiW:=(auP.aaL cZ (by omega)).bu (base':=w.heap.size) (by omega)
 clear HB HR hB3 bM cX gX vT dN cZ bD auP aY aqf aD c2
 go_wp2
 refine bodyPost_ret (v:=.agg #[.int .i64 e,.int .i64 n,.slice ah l.length ch]) (by simp[results,Tryz.results35,go_sem,z0,z1,z2]) rfl ?_
 exact⟨_,rfl,aiW,fE⟩
section
variable {P:Program} {w:World}
theorem ky (t ty e:TypeId)(base:Nat)(ht:P.underlying t=some (.slice e))(hinfo:(P.info? e).map (fun i=>(i.zero,i.size,i.bytes))=some (some (.agg #[.int .i64 0,.int .i64 0,.slice none 0 0]),3,40))
  (v:Value) (l:List Cw) (hown:bn e base w v l) (vx:Value) (m:List Cw) (his:fu w vx m) (hone:∀c∈m,c.v.oneCell'=true) (hlen:(l.length+m.length)*40≤140737488355328) (hbase:base≤w.heap.size):
  ∃v' w',(Builtin.append_ #[t,t] ty #[v,vx]).run P w=.ok v' w'∧bn e base w' v' (l++m)∧w.grownBy w' v.ownBlock∧(v'.ownBlock=v.ownBlock∨v'.ownBlock=some w.heap.size):=by
 obtain⟨i,hi,hz,hsize,hb⟩:=info_parts hinfo
 rcases his with⟨hv,hy⟩|⟨ad,cap,hv,h1,h2,hc⟩
 ·subst hy hv
  have hrun:=run_append_owned_none (P:=P) (w:=w) base t ty e i 3 ht hi v l.length _ hown
  exact⟨v,w,hrun,by simpa using hown,World.grownBy.refl _ _,.inl rfl⟩
 ·subst hv
  obtain⟨v',w',hr,h3,h4,_,h5⟩:=run_append_own_at (P:=P) w base t ty e i _ 3 40 ht hi hz hsize hb rfl (by decide) v l.length _ hown ad m.length cap (ccells m) (pR m) hc (nV m hone) (by unfold maxLen;omega) hlen hbase
  exact⟨v',w',hr,by unfold bn;rw[vz,List.length_append];exact h3,h4,h5⟩
end
theorem af8 (e n:Int)(v:Value)(l:List Bm.Ov)(w:World)(h:dh w v l)(hf:iL l)(hl:l.length≤140737488355328):
  Calls Tryz.prog 193 #[bK e n v] w fun E w'=>∃vb,E=.returned (.tuple #[vb,.int .i64 (Cm.chk e n l)])∧Own .u8 5 w.heap.size w' vb (Cm.out e n l)∧Below w.heap.size w w':=by
 unfold bK
 obtain⟨ch,hch⟩:∃c,Cm.chk e n l=c:=⟨_,rfl⟩
 obtain⟨ou,hou⟩:∃c,Cm.out e n l=c:=⟨_,rfl⟩
 rw[hch,hou]
 have HC:=hide hch
 have HO:=hide hou
 clear hch hou
 obtain⟨w1,hw1,aT,aj,hB⟩:=ak w #[.int .i64 e,.int .i64 n,v] 35
 have c0:=ai hB 0 rfl
 have c1:=ai hB 1 rfl
 have c2:=ai hB 2 rfl
 have h1:=h.below aj
 obtain⟨ao,cap,rfl,_,_⟩:=h.shape
 have BB:=hide hB
 clear hB
 go_enter Tryz.func193,Tryz.ntmps193
 go_wp2_with fail
 refine(uD e n _ l _ h1 hf hl).mono ?_
 rintro E w2 ⟨rfl,au⟩
 rw[HC.out]
 have dz:=au.size
 have hB2:=(au.block _ (by omega)).trans BB.out
 have d0:=ai hB2 0 rfl
 have d1:=ai hB2 1 rfl
 have d2:=ai hB2 2 rfl
 have h2:=h1.below au
 have aL:=aj.trans (au.mono (by omega))
 have B2:=hide hB2
 clear BB c0 c1 c2 hB2 aj au h1
 by_cases hc:ch=0
 ·subst hc
  have hc:=HC.out
  obtain⟨g1,g2,g3,g4,g5⟩:=Cm.aO hc
  have hO:=HO.out
  rw[Cm.jd hc,Cm.iB]at hO
  replace HO:=hide hO
  clear hO
  have hs1:=Cm.gy g2
  have hs2:=Cm.gy g4
  clear hc
  go_wp2_with fail
  refine(fO _ [] e _ (Is.nil _ _) (by simp) (by omega) (by omega)).mono ?_
  rintro E w3 ⟨vb,rfl,bD,aD⟩
  have cB:=aD.size
  have hB3:=(aD.block _ (by omega)).trans B2.out
  have f1:=ai hB3 1 rfl
  have h3:=h2.below aD
  have aY:=aL.trans (aD.mono (by omega))
  have B3:=hide hB3
  rw[List.nil_append]at bD
  clear B2 d0 d1 d2 hB3 aD h2 aL
  go_wp2_with fail
  refine(fO _ _ n _ bD.is (by omega) (by omega) (by omega)).mono ?_
  rintro E w4 ⟨vc,rfl,aW,aK⟩
  have lZ:=aK.size
  have hB4:=(aK.block _ (by omega)).trans B3.out
  have q2:=ai hB4 2 rfl
  have h4:=h3.below aK
  have dW:=aY.trans (aK.mono (by omega))
  clear B3 f1 hB4 aK h3 aY bD
  go_wp2_with fail
  refine(apU _ _ _ l _ aW.is (by rw[List.length_append];omega) h4 hf hl).mono ?_
  rintro E w5 ⟨vd,rfl,dw,aZ⟩
  rw[g5]
  rw[Bm.ahI g5,List.append_assoc,HO.out]at dw
  have axo:=dw.bu (base':=w.heap.size) (by omega)
  have adK:=dW.trans (aZ.mono (by omega))
  clear dw aW h4 dW aZ
  go_wp2
  refine bodyPost_ret (v:=.tuple #[vd,.int .i64 0]) (by simp[results,Tryz.results193,go_sem]) rfl ?_
  exact⟨_,rfl,axo,adK⟩
 ·have hne:(ch==0)=false:=by simpa using hc
  have hO:=HO.out
  rw[Cm.oh (by rw[HC.out];exact hc)]at hO
  subst hO
  clear hc
  go_wp2
  refine bodyPost_ret (v:=.tuple #[.slice none 0 0,.int .i64 ch]) (by simp[results,Tryz.results193,go_sem]) rfl ?_
  exact⟨_,rfl,Own.nil _ _ _ _,aL⟩
theorem dL.one {e n:Int}{v:Value}{o:List Bm.Ov}(hf:iL o)(hl:o.length*40≤140737488351232):dL [⟨e,n,v,o⟩]:=fun c hc=>by rw[List.mem_singleton.1 hc];exact⟨hf,hl⟩
theorem agC {w:World}{a:Nat}{e n:Int}{v:Value}{o:List Bm.Ov}{t:TypeId}(h:w.heap[a]? =some (.cells #[.int .i64 e,.int .i64 n,v] t (0,0))):fu w (.slice (some ⟨a,0,none⟩) 1 1) [⟨e,n,v,o⟩]:=by
 refine .inr ⟨⟨a,0,none⟩,1,rfl,by simp,by simp[maxLen],fun j u hj=>?_⟩
 rw[gF]
 simp only[ccells,iD,List.append_nil]at hj
 match j,hj with
 |0,hj=>simp at hj;subst hj;exact ai h 0 rfl
 |1,hj=>simp at hj;subst hj;exact ai h 1 rfl
 |2,hj=>simp at hj;subst hj;exact ai h 2 rfl
 |k+3,hj=>simp at hj
end Go.Proofs.YtmngcecomcadkaaGreatDoor
