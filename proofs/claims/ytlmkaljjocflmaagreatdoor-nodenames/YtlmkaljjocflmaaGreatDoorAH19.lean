/- Texts of one layer, one behind the other. -/
import Derived.Test.YtlmkaljjocflmaaGreatDoorAH4
import Derived.Test.YtlmkaljjocflmaaGreatDoorAH9
import Derived.Test.YtlmkaljjocflmaaGreatDoorAH2
import Derived.Test.YtlmkaljjocflmaaGreatDoorAH6
import Derived.Test.YtlmkaljjocflmaaGreatDoorAG2
import Derived.Test.YtlmkaljjocflmaaGreatDoorAH7
import Derived.Test.YtlmkaljjocflmaaGreatDoorAH5
set_option maxRecDepth 100000
set_option maxHeartbeats 8000000
namespace Go.Proofs.YtlmkaljjocflmaaGreatDoor
open Go.RowKit
set_option linter.unusedVariables false
set_option maxRecDepth 100000
theorem aeJ (z:Int)(h0:-9223372036854775808≤z)(h1:z<9223372036854775808):IntKind.i64.wrap z=z:=by
 unfold IntKind.wrap
 simp[IntKind.bits,IntKind.signed]
 omega
def ei (bad:Bool):Int:=if bad then 5 else 0
def eO (w0 w:World) (g:Nat) (vb:Value) (bs:List Int) (a:Nat) (bad:Bool):Prop:=
 Is .u8 w0 vb bs∧w0.heap.size≤g∧Below w0.heap.size w0 w∧w.heap[g]? =some (.cells #[vb,.int .i64 a,.int .i64 (ei bad)] 352 (0,0))∧a≤bs.length
section
variable {w0 w w':World} {g a:Nat} {vb:Value} {bs:List Int} {bad:Bool}
theorem eO.lt (h:eO w0 w g vb bs a bad):g<w.heap.size:=aA h.2.2.2.1
theorem eO.is (h:eO w0 w g vb bs a bad):Is .u8 w vb bs:=h.1.below h.2.2.1
theorem eO.below (h:eO w0 w g vb bs a bad)(hb:Below w.heap.size w w'):eO w0 w' g vb bs a bad:=
 ⟨h.1,h.2.1,h.2.2.1.trans (hb.mono h.2.2.1.size),(hb.block g h.lt).trans h.2.2.2.1,h.2.2.2.2⟩
theorem eO.grown (h:eO w0 w g vb bs a bad){row:Nat}(hb:w.grownBy w' (some row))(hr:w0.heap.size≤row)(hne:row≠g):eO w0 w' g vb bs a bad:=
 ⟨h.1,h.2.1,h.2.2.1.grown hb h.2.2.1.size (fun k hk=>by simp at hk;omega),(hb.block g h.lt (by simp;omega)).trans h.2.2.2.1,h.2.2.2.2⟩
theorem eO.cell0 (h:eO w0 w g vb bs a bad):w.cell? ⟨g,0,none⟩=some vb:=ai h.2.2.2.1 0 rfl
theorem eO.cell1 (h:eO w0 w g vb bs a bad):w.cell? ⟨g,1,none⟩=some (.int .i64 a):=ai h.2.2.2.1 1 rfl
theorem eO.apI (h:eO w0 w g vb bs a bad):w.cell? ⟨g,2,none⟩=some (.int .i64 (ei bad)):=ai h.2.2.2.1 2 rfl
theorem eO.good (h:eO w0 w g vb bs a false):w.cell? ⟨g,2,none⟩=some (.int .i64 0):=h.apI
theorem eO.aiI (h:eO w0 w g vb bs a true):w.cell? ⟨g,2,none⟩=some (.int .i64 5):=h.apI
theorem eO.kH (h:eO w0 w g vb bs a bad)(j:Nat):w.frozen? ⟨g,j,none⟩=false:=aB h.2.2.2.1 j
theorem eO.an3 (h:eO w0 w g vb bs a bad)(a':Nat)(ha:a'≤bs.length):eO w0 (w.setCell ⟨g,1,none⟩ (.int .i64 a')) g vb bs a' bad:=
 ⟨h.1,h.2.1,h.2.2.1.setCell (p:=⟨g,1,none⟩) h.2.1 _,by rw[aG h.2.2.2.1];rfl,ha⟩
theorem eO.aiG (h:eO w0 w g vb bs a bad)(bad':Bool):eO w0 (w.setCell ⟨g,2,none⟩ (.int .i64 (ei bad'))) g vb bs a bad':=
 ⟨h.1,h.2.1,h.2.2.1.setCell (p:=⟨g,2,none⟩) h.2.1 _,by rw[aG h.2.2.2.1];rfl,h.2.2.2.2⟩
end
theorem agD (vb:Value)(bs:List Int)(most u i g:Int)(w:World)(hb:Is .u8 w vb bs)(hl:bs.length≤140737488355328)(hm:most<9223372036854775808)(hm':-9223372036854775808≤most)(hS:yQ bs most u i g):
  Calls Tryz.prog 203 #[vb,.int .i64 most] w fun E w'=>E=.returned (.tuple #[.int .i64 u,.int .i64 i,.int .i64 g])∧∃m,w'=w.drewN m:=
 (kS vb bs most u i g w hb (by omega) hm hm' hS).mono (by rintro E w' ⟨rfl,rfl⟩;exact⟨rfl,0,rfl⟩)
theorem o9 (w0 w:World)(g:Nat)(vb:Value)(bs:List Int)(a:Nat)(bad:Bool)(most:Nat)(h:eO w0 w g vb bs a bad)(hl:bs.length≤140737488355328)(hm:most<9223372036854775808):
  Calls Tryz.prog 329 #[.pointer (some ⟨g,0,none⟩),.int .i64 most] w fun E w'=>∃(u a':Nat) (bad':Bool),E=.returned (.int .i64 u)∧eO w0 w' g vb bs a' bad'∧w.grownBy w' (some g)∧Bm.SS bs most a bad u a' bad':=by
 have c0:=h.cell0
 have c1:=h.cell1
 have f1:=h.kH 1
 have f2:=h.kH 2
 have ha:=h.2.2.2.2
 cases bad
 ·have c2:=h.good
  obtain⟨vs,hsl,gy⟩:=h.is.iN Tryz.lG Tryz.mF a ha
  obtain⟨u,i,e,hS⟩:=rA (bs.drop a) most
  have hdl:(bs.drop a).length=bs.length-a:=by rw[List.length_drop]
  rcases hS with⟨hR,h1,h2,he⟩|⟨hu,hi,he,x,n,f,hR,hcase⟩
  ·have hbd:=Vm.kg hR
   obtain⟨un,rfl⟩:∃un:Nat,u=un:=⟨u.toNat,by omega⟩
   obtain⟨n,rfl⟩:∃n:Nat,i=n:=⟨i.toNat,by omega⟩
   have hG:Bm.SS bs most a false un (a+n) false:=by
    rcases hR with⟨x,hx,hp,h3,h4,_⟩|⟨_,_,_,h5⟩
    ·have:x=un:=by omega
     subst this
     exact .inr (.inr ⟨rfl,rfl,by omega,hp,by omega⟩)
    ·simp at h5
   have hS:yQ (bs.drop a) most un n 0:=.inl ⟨hR,h1,h2,rfl⟩
   have HG:=hide hG
   have HS:=hide hS
   have HH:=hide h
   have hn1:a+n≤bs.length:=by omega
   have hn2:n≤10:=by omega
   clear hS hG hR hbd h he h1 h2
   go_enter Tryz.func329,Tryz.ntmps329
   go_wp2_with fail
   go_quiet ((go_at_call 203;refine Calls.quiet_of (agD _ (bs.drop a) most un n 0 _ (gy.drewN _) (by omega) (by omega) (by omega) HS.out)))
   have r1:=HH.out.below (below_drewN (Below.refl _ _) nq)
   have R3:=hide ((r1.an3 (a+n) hn1).aiG false)
   clear r1 gy hsl
   go_wp2
   go_ret
   exact⟨un,a+n,false,rfl,R3.out,aI (aI (jl _ _ _) (ax _ _ _)) (ax _ _ _),HG.out⟩
  ·have hG:Bm.SS bs most a false 0 a true:=by
    refine .inr (.inl ⟨rfl,rfl,rfl,rfl,fun y hy hp=>?_⟩)
    have:=Vm.pM hR (u:=y) (by omega) hp
    omega
   have hS:yQ (bs.drop a) most 0 0 5:=.inr ⟨rfl,rfl,rfl,x,n,f,hR,hcase⟩
   have HG:=hide hG
   have HS:=hide hS
   have HH:=hide h
   clear hS hG hR h he hcase hu hi
   go_enter Tryz.func329,Tryz.ntmps329
   go_wp2_with fail
   go_quiet ((go_at_call 203;refine Calls.quiet_of (agD _ (bs.drop a) most 0 0 5 _ (gy.drewN _) (by omega) (by omega) (by omega) HS.out)))
   have r1:=HH.out.below (below_drewN (Below.refl _ _) nq)
   have R3:=hide ((r1.an3 a ha).aiG true)
   clear r1 gy hsl
   go_wp2
   go_ret
   exact⟨0,a,true,rfl,R3.out,aI (aI (jl _ _ _) (ax _ _ _)) (ax _ _ _),HG.out⟩
 ·have c2:=h.aiI
  have HH:=hide h
  clear h
  go_enter Tryz.func329,Tryz.ntmps329
  go_wp2
  go_ret
  exact⟨0,a,true,rfl,HH.out,World.grownBy.refl _ _,.inl ⟨rfl,rfl,rfl,rfl⟩⟩
theorem abM (w0 w:World)(g:Nat)(vb:Value)(bs:List Int)(a:Nat)(bad:Bool)(n:Nat)(h:eO w0 w g vb bs a bad)(hl:bs.length≤140737488355328)(hm:n<4611686018427387904):
  Calls Tryz.prog 343 #[.pointer (some ⟨g,0,none⟩),.int .i64 n] w fun E w'=>∃(s:ByteArray) (zs:List Int) (a':Nat) (bad':Bool),E=.returned (.string s)∧s.data.toList=Om.ik zs∧eO w0 w' g vb bs a' bad'∧w.grownBy w' (some g)∧Bm.BS bs n a bad zs a' bad':=by
 have c0:=h.cell0
 have c1:=h.cell1
 have f1:=h.kH 1
 have f2:=h.kH 2
 have ha:=h.2.2.2.2
 have hlen:=h.is.aqE Tryz.lG
 cases bad
 ·have c2:=h.good
  by_cases hn:n≤bs.length-a
  ·obtain⟨vs,hsl,gy⟩:=h.is.pF Tryz.lG Tryz.mF a (a+n) (by omega) (by omega)
   rw[show a+n-a=n by omega]at gy
   have hsl2:∀wx,(Instr.slice 61 vb (some (.int .i64 (a:Int))) (some (.int .i64 ((a:Int)+(n:Int)))) none).run Tryz.prog wx=.ok vs wx:=by simpa using hsl
   have hwr:IntKind.i64.wrap ((a:Int)+(n:Int))=(a:Int)+n:=aeJ _ (by omega) (by omega)
   have ap7:=fun m=>(gy.drewN m).conv Tryz.underlying61 Tryz.underlying5 Tryz.underlying9
   clear hsl
   have hge:¬(bs.length:Int)-a<n:=by omega
   have HH:=hide h
   clear h
   go_enter Tryz.func343,Tryz.ntmps343
   go_wp2_with fail
   go_quiet (fail)
   go_wp2_with fail
   generalize nq=n1
   have atT:=fun m=>ap7 (n1+m)
   go_quiet (fail)
   have r1:=HH.out.below (below_drewN (Below.refl _ _) (n1+nq))
   have k1:=r1.cell1
   have g1:=r1.kH 1
   have R1:=hide r1
   clear r1 ap7 atT gy hsl2
   go_wp2
   go_ret
   exact⟨_,(bs.drop a).take n,a+n,false,rfl,by simp,R1.out.an3 (a+n) (by omega),aI (jl _ _ _) (ax _ _ _),.inr ⟨rfl,hn,rfl,rfl,rfl⟩⟩
  ·have hge:(bs.length:Int)-a<n:=by omega
   have HH:=hide h
   clear h
   go_enter Tryz.func343,Tryz.ntmps343
   go_wp2_with fail
   go_quiet (fail)
   go_wp2
   go_ret
   exact⟨_,[],a,true,rfl,rfl,(HH.out.below (below_drewN (Below.refl _ _) nq)).aiG true,aI (jl _ _ _) (ax _ _ _),.inl ⟨.inr (by omega),rfl,rfl,rfl⟩⟩
 ·have c2:=h.aiI
  have HH:=hide h
  clear h
  go_enter Tryz.func343,Tryz.ntmps343
  go_wp2
  go_ret
  exact⟨_,[],a,true,rfl,rfl,HH.out,World.grownBy.refl _ _,.inl ⟨.inl rfl,rfl,rfl,rfl⟩⟩
theorem Tryz.akF:∀args w,(callFunc 343 args).run Tryz.prog w=.ok (.enter 343 args) w:=enters_of Tryz.func343 (by kernel_rfl) rfl
theorem amu {bs zs:List Int}{n sh a a':Nat}{bad bad':Bool}{s:ByteArray}(hs:s.data.toList=Om.ik zs)(h:Bm.BS bs n a bad zs a' bad')(hn:n≤16-sh)(hsh:sh≤16):¬9223372036854775807<sh+s.size:=by
 have:=Bm.adL h
 have e:=congrArg List.length hs
 rw[Om.jJ,←Lib.size_eq]at e
 omega
theorem afo (w0 w:World)(g:Nat)(vb:Value)(bs:List Int)(a:Nat)(bad:Bool)(ah:ByteArray)(h:eO w0 w g vb bs a bad)(hl:bs.length≤140737488355328)(hah:ah.size≤16):
  Calls Tryz.prog 342 #[.pointer (some ⟨g,0,none⟩),.string ah] w fun E w'=>∃(k:ByteArray) (a':Nat) (bad':Bool),E=.returned (.string k)∧eO w0 w' g vb bs a' bad'∧w.grownBy w' (some g)∧Bm.KS bs a bad ah.data.toList k.data.toList a' bad':=by
 have hal:ah.data.toList.length=ah.size:=(Lib.size_eq ah).symm
 go_enter Tryz.func342,Tryz.ntmps342
 go_wp2_with fail
 refine(o9 w0 w g vb bs a bad ah.size h hl (by omega)).mono ?_
 rintro E w1 ⟨sh,a1,gQ,rfl,r1,ym,s1⟩
 have hsh:=Bm.sM s1
 have hsub:(16:Int)-sh=((16-sh:Nat):Int):=by omega
 have S1:=hide s1
 clear s1 h
 go_wp2_with fail
 refine(o9 w0 w1 g vb bs a1 gQ (16-sh) r1 hl (by omega)).mono ?_
 rintro E w2 ⟨n,a2,je,rfl,r2,jA,s2⟩
 have hn:=Bm.sM s2
 have S2:=hide s2
 have R2:=hide r2
 clear s2 r1 r2
 have X:Hid (∀m,Calls Tryz.prog 343 #[.pointer (some ⟨g,0,none⟩),.int .i64 n] (w2.drewN m) fun E w'=>∃v,E=.returned v∧∃(s:ByteArray) (zs:List Int) (a':Nat) (bad':Bool),v=.string s∧s.data.toList=Om.ik zs∧eO w0 w' g vb bs a' bad'∧(w2.drewN m).grownBy w' (some g)∧Bm.BS bs n a2 je zs a' bad'):=
  hide fun m=>(abM w0 (w2.drewN m) g vb bs a2 je n (R2.out.below (below_drewN (Below.refl _ _) m)) hl (by omega)).mono (by rintro E w' ⟨s,zs,a',bad',rfl,h⟩;exact⟨_,rfl,s,zs,a',bad',rfl,h⟩)
 go_wp2_with fail
 go_region_law (refine uH rfl 343 #[.tmp 19,.tmp 20] #[366,3] rfl Tryz.akF #[.pointer (some ⟨g,0,none⟩),.int .i64 n] (by simp[Act.eval,Act.put]) (X.out _) ?_;rintro vv w3 ⟨s,zs,a3,pJ,rfl,hs,r3,xW,s3⟩;have hss:=amu hs s3 hn (by omega))
 all_goals
  have hsz:s.size≤16:=by
   have:=Bm.adL s3
   have e:=congrArg List.length hs
   rw[Om.jJ,←Lib.size_eq]at e
   omega
  have hdat:(ah.extract 0 sh++s).data.toList=ah.data.toList.take sh++Om.ik zs:=by rw[←hs];simp
  have hksz:(ah.extract 0 sh++s).size≤32:=by rw[Lib.size_eq,hdat,List.length_append,←hs,←Lib.size_eq,List.length_take];omega
  have gr:w.grownBy w3 (some g):=aI ym (aI jA (aI (jl _ 1 _) xW))
  generalize ah.extract 0 sh++s=K at*
  rw[←hal]at S1
  have HK:∀bad',bad'=(pJ||decide (Bm.com ah.data.toList K.data.toList≠sh))→Bm.KS bs a bad ah.data.toList K.data.toList a3 bad':=fun bad' e=>⟨sh,n,zs,a1,gQ,a2,je,pJ,S1.out,S2.out,s3,hdat,e⟩
  have HK:=hide HK
  clear hdat hs s3 ym jA xW X hss
  have f2:=r3.kH 2
  cases pJ
  ·have c2:=r3.good
   have R3:=hide r3
   clear r3
   go_wp2_with fail
   refine(tF ah K _ (by omega) (by omega)).mono ?_
   rintro E w4 ⟨rfl,aL⟩
   have r4:=R3.out.below aL
   have f4:=r4.kH 2
   have d2:=r4.good
   have R4:=hide r4
   have oL:w.grownBy w4 (some g):=aI gr (jZ aL _)
   clear r4 R3 aL gr c2 f2
   by_cases hc:Bm.com ah.data.toList K.data.toList=sh
   ·have hb:((Bm.com ah.data.toList K.data.toList:Int) !=(sh:Int))=false:=by rw[hc];simp
    have HK2:=hide (HK.out false (by simp[hc]))
    clear hc
    go_wp2
    go_ret
    exact⟨K,a3,false,rfl,R4.out,oL,HK2.out⟩
   ·have hb:((Bm.com ah.data.toList K.data.toList:Int) !=(sh:Int))=true:=by simp;omega
    have HK2:=hide (HK.out true (by simp[hc]))
    clear hc
    go_wp2
    go_ret
    exact⟨K,a3,true,rfl,R4.out.aiG true,aI oL (ax _ _ _),HK2.out⟩
  ·have c2:=r3.aiI
   have R3:=hide r3
   clear r3
   go_wp2
   go_ret
   exact⟨K,a3,true,rfl,R3.out,gr,HK.out true (by simp)⟩
theorem aqm (w0 w:World)(g:Nat)(vb:Value)(bs:List Int)(a:Nat)(bad:Bool)(ah:ByteArray)(h:eO w0 w g vb bs a bad)(hl:bs.length≤140737488355328)(hah:ah.size≤16):
  Calls Tryz.prog 330 #[.pointer (some ⟨g,0,none⟩),.string ah] w fun E w'=>∃(o:Bm.Ov) (a':Nat) (bad':Bool),E=.returned (vQ o.p o.k o.v)∧eO w0 w' g vb bs a' bad'∧w.grownBy w' (some g)∧Bm.OS bs a bad ah.data.toList o a' bad'∧o.k.size≤16∧o.v.size≤32:=by
 unfold vQ
 have hby:=h.is.bytes
 have hg:=h.lt
 have hw0:=h.2.2.1.size
 obtain⟨W,hW,szW,jN,aup⟩:=au w #[.bool false,.string ⟨#[]⟩,.string ⟨#[]⟩] 71
 have r0:=h.below jN
 have grW:=jZ jN (some g)
 have HBY:=hide hby
 clear h hby
 go_enter Tryz.func330,Tryz.ntmps330
 go_wp2_with fail
 refine(o9 w0 W g vb bs a bad 1 r0 hl (by omega)).mono ?_
 rintro E w1 ⟨mark,a1,gQ,rfl,r1,ym,s1⟩
 have aT:=ym.size
 have adx:=(ym.block w.heap.size (by omega) (by simp;omega)).trans aup
 have hmark:=Bm.sM s1
 have grA:w.grownBy w1 (some g):=aI grW ym
 clear r0 grW ym aup jN hW
 rcases(show mark=0∨mark=1 by omega)with rfl|rfl
 ·have S1:=hide s1
  clear s1
  go_wp2_with fail
  refine(afo w0 w1 g vb bs a1 gQ ah r1 hl hah).mono ?_
  rintro E w2 ⟨k,a2,je,rfl,r2,jA,ks⟩
  have dm:=jA.size
  have aaP:=(jA.block w.heap.size (by omega) (by simp;omega)).trans adx
  obtain⟨W3,hW3,bJ,aC,iB⟩:=au w2 #[.bool false,.string k,.string ⟨#[]⟩] 71
  have O0:=aB iB 0
  have O1:=aB iB 1
  have O2:=aB iB 2
  have x0:W3.setCell ⟨w2.heap.size,0,none⟩ (.bool false)=W3:=aM iB (j:=0) rfl
  have x1:W3.setCell ⟨w2.heap.size,1,none⟩ (.string k)=W3:=aM iB (j:=1) rfl
  have x2:W3.setCell ⟨w2.heap.size,2,none⟩ (.string ⟨#[]⟩)=W3:=aM iB (j:=2) rfl
  have r3:=r2.below aC
  have lF:=(aC.block w.heap.size (by omega)).trans aaP
  have o0:W3.cell? ⟨w2.heap.size,0,none⟩=some (.bool false):=ai iB 0 rfl
  have o1:W3.cell? ⟨w2.heap.size,1,none⟩=some (.string k):=ai iB 1 rfl
  have o2:W3.cell? ⟨w2.heap.size,2,none⟩=some (.string ⟨#[]⟩):=ai iB 2 rfl
  have R0:W3.cell? ⟨w.heap.size,0,none⟩=some (.bool false):=ai lF 0 rfl
  have R1:W3.cell? ⟨w.heap.size,1,none⟩=some (.string ⟨#[]⟩):=ai lF 1 rfl
  have R2:W3.cell? ⟨w.heap.size,2,none⟩=some (.string ⟨#[]⟩):=ai lF 2 rfl
  have F0:=aB lF 0
  have F1:=aB lF 1
  have F2:=aB lF 2
  obtain⟨V',hV',fu,dP⟩:=aop lF (.bool false) (.string k) (.string ⟨#[]⟩)
  have k0:V'.cell? ⟨w.heap.size,0,none⟩=some (.bool false):=ai fu 0 rfl
  have k1:V'.cell? ⟨w.heap.size,1,none⟩=some (.string k):=ai fu 1 rfl
  have k2:V'.cell? ⟨w.heap.size,2,none⟩=some (.string ⟨#[]⟩):=ai fu 2 rfl
  have grB:w.grownBy V' (some g):=grown_fresh (aI (aI grA jA) (jZ aC _)) dP (Nat.le_refl _)
  have rV:eO w0 V' g vb bs a2 je:=r3.grown dP hw0 (by omega)
  have hOS:Bm.OS bs a bad ah.data.toList ⟨false,k,⟨#[]⟩⟩ a2 je:=Bm.atD HBY.out S1.out ks rfl rfl rfl
  have hkl:=Bm.ai3 ks (by rw[←Lib.size_eq];exact hah)
  rw[←Lib.size_eq]at hkl
  have RV:=hide rV
  have OS:=hide hOS
  clear ks r1 r2 r3 adx aaP lF iB fu dP rV hOS grA jA aC
  go_wp2
  refine bodyPost_ret (v:=.agg #[.bool false,.string k,.string ⟨#[]⟩]) (by simp[results,Tryz.results330,go_sem,k0,k1,k2]) rfl ?_
  exact⟨⟨false,k,⟨#[]⟩⟩,a2,je,rfl,RV.out,grB,OS.out,hkl,by simp[ByteArray.size]⟩
 ·have S1:=hide s1
  clear s1
  go_wp2_with fail
  refine(afo w0 w1 g vb bs a1 gQ ah r1 hl hah).mono ?_
  rintro E w2 ⟨k,a2,je,rfl,r2,jA,ks⟩
  have dm:=jA.size
  have aaP:=(jA.block w.heap.size (by omega) (by simp;omega)).trans adx
  obtain⟨W3,hW3,bJ,aC,iB⟩:=au w2 #[.bool true,.string k,.string ⟨#[]⟩] 71
  have O0:=aB iB 0
  have O1:=aB iB 1
  have O2:=aB iB 2
  have x0:W3.setCell ⟨w2.heap.size,0,none⟩ (.bool true)=W3:=aM iB (j:=0) rfl
  have x1:W3.setCell ⟨w2.heap.size,1,none⟩ (.string k)=W3:=aM iB (j:=1) rfl
  have x2:W3.setCell ⟨w2.heap.size,2,none⟩ (.string ⟨#[]⟩)=W3:=aM iB (j:=2) rfl
  have r3:=r2.below aC
  have lF:=(aC.block w.heap.size (by omega)).trans aaP
  have o0:W3.cell? ⟨w2.heap.size,0,none⟩=some (.bool true):=ai iB 0 rfl
  have o1:W3.cell? ⟨w2.heap.size,1,none⟩=some (.string k):=ai iB 1 rfl
  have o2:W3.cell? ⟨w2.heap.size,2,none⟩=some (.string ⟨#[]⟩):=ai iB 2 rfl
  have grB:w.grownBy W3 (some g):=aI (aI grA jA) (jZ aC _)
  have hkl:=Bm.ai3 ks (by rw[←Lib.size_eq];exact hah)
  rw[←Lib.size_eq]at hkl
  have KS:=hide ks
  clear ks r1 r2 grA jA aC adx aaP
  go_wp2_with fail
  refine(o9 w0 W3 g vb bs a2 je 32 r3 hl (by omega)).mono ?_
  rintro E w4 ⟨n,a4,jg,rfl,r4,oL,s4⟩
  have hn:=Bm.sM s4
  have iE:=oL.size
  have ap8:=(oL.block w.heap.size (by omega) (by simp;omega)).trans lF
  have apw:=(oL.block w2.heap.size (by omega) (by simp;omega)).trans iB
  have S4:=hide s4
  clear s4
  go_wp2_with fail
  refine(abM w0 w4 g vb bs a4 jg n r4 hl (by omega)).mono ?_
  rintro E w5 ⟨s,ys,a5,eT,rfl,hs,r5,gr5,s5⟩
  have lU:=gr5.size
  have apt:=(gr5.block w.heap.size (by omega) (by simp;omega)).trans ap8
  have adI:=(gr5.block w2.heap.size (by omega) (by simp;omega)).trans apw
  have p2:w5.cell? ⟨w2.heap.size,2,none⟩=some (.string ⟨#[]⟩):=ai adI 2 rfl
  have q2:=aB adI 2
  obtain⟨W6,hW6⟩:∃W6,w5.setCell ⟨w2.heap.size,2,none⟩ (.string s)=W6:=⟨_,rfl⟩
  have adD:W6.heap[w2.heap.size]? =some (.cells #[.bool true,.string k,.string s] 71 (0,0)):=by rw[←hW6];exact aG adI 2 (.string s)
  have gr6:w5.grownBy W6 (some w2.heap.size):=by rw[←hW6];exact ax w5 ⟨w2.heap.size,2,none⟩ _
  have uo:=gr6.size
  have qA:=(gr6.block w.heap.size (by omega) (by simp;omega)).trans apt
  have r6:=r5.grown gr6 (by omega) (by omega)
  have o0:W6.cell? ⟨w2.heap.size,0,none⟩=some (.bool true):=ai adD 0 rfl
  have o1:W6.cell? ⟨w2.heap.size,1,none⟩=some (.string k):=ai adD 1 rfl
  have o2:W6.cell? ⟨w2.heap.size,2,none⟩=some (.string s):=ai adD 2 rfl
  have R0:W6.cell? ⟨w.heap.size,0,none⟩=some (.bool false):=ai qA 0 rfl
  have R1:W6.cell? ⟨w.heap.size,1,none⟩=some (.string ⟨#[]⟩):=ai qA 1 rfl
  have R2:W6.cell? ⟨w.heap.size,2,none⟩=some (.string ⟨#[]⟩):=ai qA 2 rfl
  have F0:=aB qA 0
  have F1:=aB qA 1
  have F2:=aB qA 2
  obtain⟨V',hV',fu,dP⟩:=aop qA (.bool true) (.string k) (.string s)
  have k0:V'.cell? ⟨w.heap.size,0,none⟩=some (.bool true):=ai fu 0 rfl
  have k1:V'.cell? ⟨w.heap.size,1,none⟩=some (.string k):=ai fu 1 rfl
  have k2:V'.cell? ⟨w.heap.size,2,none⟩=some (.string s):=ai fu 2 rfl
  have grC:w.grownBy V' (some g):=grown_fresh (grown_fresh (aI (aI grB oL) gr5) gr6 (by omega)) dP (Nat.le_refl _)
  have rV:eO w0 V' g vb bs a5 eT:=r6.grown dP hw0 (by omega)
  have hOS:Bm.OS bs a bad ah.data.toList ⟨true,k,s⟩ a5 eT:=Bm.auA HBY.out S1.out KS.out rfl rfl hs S4.out s5
  have hsl:s.size≤32:=by
   have:=Bm.adL s5
   have e:=congrArg List.length hs
   rw[Om.jJ,←Lib.size_eq]at e
   omega
  have RV:=hide rV
  have OS:=hide hOS
  clear hs s5 r4 r5 r6 rV hOS lF ap8 apt qA iB apw adI adD fu dP grB oL gr5 gr6
  go_wp2
  refine bodyPost_ret (v:=.agg #[.bool true,.string k,.string s]) (by simp[results,Tryz.results330,go_sem,k0,k1,k2]) rfl ?_
  exact⟨⟨true,k,s⟩,a5,eT,rfl,RV.out,grC,OS.out,hkl,hsl⟩
def pQ (l:List Bm.Ov):Prop:=∀o∈l,o.k.size≤16∧o.v.size≤32
theorem pQ.fit {l:List Bm.Ov}(h:pQ l):fZ l:=fun o ho=>by have:=h o ho;omega
theorem pQ.snoc {l:List Bm.Ov}{o:Bm.Ov}(h:pQ l)(h1:o.k.size≤16)(h2:o.v.size≤32):pQ (l++[o]):=by
 intro x hx
 rcases List.mem_append.1 hx with hx|hx
 ·exact h x hx
 ·rw[List.mem_singleton.1 hx];exact⟨h1,h2⟩
theorem sK {l:List Bm.Ov}(h:Bm.cO l=0):pQ l:=by
 intro o ho
 have:=Om.ic ((Bm.dJ h).2.2 o ho)
 simp only[Bm.Ov.kl,Bm.Ov.vl,←Lib.size_eq]at this
 omega
theorem akP (vb:Value)(bs:List Int)(w:World)(hb:Is .u8 w vb bs)(hl:bs.length≤140737488355328):
  Calls Tryz.prog 304 #[vb] w fun E w'=>∃(vl:Value) (l:List Bm.Ov) (n e:Int),E=.returned (.tuple #[vl,.int .i64 n,.int .i64 e])∧bu 71 w.heap.size w' vl l∧Bm.al9 bs l n e∧Below w.heap.size w w':=by
 obtain⟨i0,hi,hz0,hz1,hz2⟩:=info_parts Tryz.aec
 obtain⟨ao,cap,rfl,_,_⟩:=hb.shape
 obtain⟨W1,hW1,aT,ak,pG⟩:=au w #[.slice ao bs.length cap,.int .i64 0,.int .i64 0] 352
 have r1:eO w W1 w.heap.size (.slice ao bs.length cap) bs 0 false:=⟨hb,by omega,ak,pG,by omega⟩
 have c0:W1.cell? ⟨w.heap.size,0,none⟩=some (.slice ao bs.length cap):=ai pG 0 rfl
 have c1:W1.cell? ⟨w.heap.size,1,none⟩=some (.int .i64 0):=ai pG 1 rfl
 have c2:W1.cell? ⟨w.heap.size,2,none⟩=some (.int .i64 0):=ai pG 2 rfl
 have f0:=aB pG 0
 have f1:=aB pG 1
 have f2:=aB pG 2
 have x0:W1.setCell ⟨w.heap.size,0,none⟩ (.slice ao bs.length cap)=W1:=aM pG (j:=0) rfl
 have x1:W1.setCell ⟨w.heap.size,1,none⟩ (.int .i64 0)=W1:=aM pG (j:=1) rfl
 have x2:W1.setCell ⟨w.heap.size,2,none⟩ (.int .i64 0)=W1:=aM pG (j:=2) rfl
 clear pG
 go_enter Tryz.func304,Tryz.ntmps304
 go_wp2_with fail
 refine(o9 w W1 w.heap.size _ bs 0 false 8 r1 hl (by omega)).mono ?_
 rintro E w2 ⟨c,a2,je,rfl,r2,jA,s2⟩
 have hc8:=Bm.sM s2
 have dm:=jA.size
 have LS0:=hide (Bm.an7 s2)
 clear s2 r1
 go_wp2_with (at_make;refine wpList_make_own _ rfl _ _ 33 rfl (w.heap.size+1) 71 i0 (.agg #[.bool false,.string ⟨#[]⟩,.string ⟨#[]⟩]) 3 Tryz.underlying33 hi hz0 hz1 _ _ _ c rfl rfl (by omega) ?b2 ?b3 (by omega) ?_)
 case b2=>rw[hz2];omega
 case b3=>unfold maxLen;omega
 intro w3 hown3 hgrow3
 have aC:Below w2.heap.size w2 w3:=(Below.refl _ _).grown hgrow3 (Nat.le_refl _) (by simp)
 have bG:bu 71 (w.heap.size+1) w3 (.slice (some ⟨w2.heap.size,0,none⟩) 0 c) []:=hown3
 have r3:=r2.below aC
 have bJ:=aC.size
 clear r2 aC hown3 hgrow3 jA c0 c1 c2 f0 f1 f2 x0 x1 x2 hW1 ak
 go_wp2
 go_loopw [2,7,15] (fun lv av i wr=>∃(k:Nat) (l:List Bm.Ov) (ah:ByteArray) (a:Nat) (bad:Bool),k≤c∧i=.int .i64 k∧av=.string ah∧ah.size≤16∧l.length=k∧Hid (pQ l)∧bu 71 (w.heap.size+1) wr lv l∧eO w wr w.heap.size (.slice ao bs.length cap) bs a bad∧Hid (Bm.LS bs c l a bad ah.data.toList)) (fun _ _ i _=>c-(intOf i).toNat)
 case atStart=>exact⟨0,[],⟨#[]⟩,a2,je,by omega,rfl,rfl,by simp[ByteArray.size],rfl,hide (fun o ho=>by simp at ho),bG,r3,LS0⟩
 case round=>
  obtain⟨k,l,ah,a,bad,hk,rfl,rfl,hah,hlk,HS,own,r,L⟩:=hrel
  have hgl:=r.lt
  by_cases hlt:k<c
  ·have hlt':(k:Int)<c:=by omega
   go_wp2_with fail
   refine(aqm w wr w.heap.size _ bs a bad ah r hl hah).mono ?_
   rintro E w4 ⟨o,a4,jg,rfl,r4,oL,os4,hok,hov⟩
   unfold vQ
   have iE:=oL.size
   have bq:=own.kept oL (by
    rcases hv:Value.ownBlock _ with _|b
    ·exact .inl rfl
    ·refine .inr fun e=>?_
     have:=own.block b hv
     simp at e
     omega)
   have aqi:=bq.block
   have L4:=hide (Bm.aru L.out (by omega) os4)
   have HS4:=hide (HS.out.snoc hok hov)
   obtain⟨w5,gM,lU,aQ,oN⟩:=au w4 #[.bool o.p,.string o.k,.string o.v] 71
   have p0:w5.cell? ⟨w4.heap.size,0,none⟩=some (.bool o.p):=ai oN 0 rfl
   have p1:w5.cell? ⟨w4.heap.size,1,none⟩=some (.string o.k):=ai oN 1 rfl
   have p2:w5.cell? ⟨w4.heap.size,2,none⟩=some (.string o.v):=ai oN 2 rfl
   have q0:=aB oN 0
   have q1:=aB oN 1
   have q2:=aB oN 2
   have x0:w5.setCell ⟨w4.heap.size,0,none⟩ (.bool o.p)=w5:=aM oN (j:=0) rfl
   have x1:w5.setCell ⟨w4.heap.size,1,none⟩ (.string o.k)=w5:=aM oN (j:=1) rfl
   have x2:w5.setCell ⟨w4.heap.size,2,none⟩ (.string o.v)=w5:=aM oN (j:=2) rfl
   have dx:=bq.below aQ
   have r5:=r4.below aQ
   obtain⟨w6,kD,uo,fo,eY⟩:=sO 71 w5 #[.bool o.p,.string o.k,.string o.v] 1 [o] rfl rfl (by simp[maxLen])
   rw[lU]at eY
   have jw:=dx.below fo
   have r6:=r5.below fo
   have ar4:=(fo.block w4.heap.size (by omega)).trans oN
   have B6:=hide ar4
   have R6:=hide r6
   clear os4 own bq dx r r4 r5 r6 oN ar4 aQ fo oL L HS
   go_wp2_with (at_builtin;refine nN rfl (.tmp 19) (.tmp 21) 33 rfl 71 (w.heap.size+1) Tryz.underlying33 Tryz.aec _ l rfl jw _ [o] rfl eY.is (by simp;omega) (by omega) ?_)
   intro v8 w8 si o8 gr8
   have asY:=(gr8.block w4.heap.size (by omega) (fun e=>by have:=aqi _ e.symm;omega)).trans B6.out
   have r8:eO w w8 w.heap.size (.slice ao bs.length cap) bs a4 jg:=by
    obtain⟨h1,h2,h3,h4,h5⟩:=R6.out
    have hs:=h3.size
    exact⟨h1,h2,h3.trans (o8.mono (by omega)),(o8.block w.heap.size (by omega)).trans h4,h5⟩
   have k1:w8.cell? ⟨w4.heap.size,1,none⟩=some (.string o.k):=ai asY 1 rfl
   clear asY jw eY gr8 o8 B6 R6 p0 p1 p2 q0 q1 q2 x0 x1 x2 aqi gM kD
   go_wp2
   go_roundw
   case rel=>exact⟨k+1,l++[o],o.k,a4,jg,by omega,by go_num,rfl,hok,by simp[hlk],HS4,si,r8,L4⟩
   case measure=>simp[intOf];omega
  ·have hke:k=c:=by omega
   have hlt':¬(k:Int)<c:=by omega
   have gm:Below w.heap.size w wr:=r.2.2.1
   cases bad
   ·have e2:=r.good
    have e1:=r.cell1
    have R:=hide r
    clear r
    by_cases hc:Bm.cO l=0
    ·have HR:=hide (Bm.au5 L.out (by omega) hc)
     have HC:=hide hc
     clear hc L
     go_wp2_with fail
     refine(jY _ l _ own.is HS.out.fit (by omega)).mono ?_
     rintro E w9 ⟨rfl,nE⟩
     rw[HC.out]
     have r9:=R.out.below nE
     have e19:=r9.cell1
     have uP:=(own.below nE).bz (base':=w.heap.size) (by omega)
     have rY:Below w.heap.size w w9:=gm.trans (nE.mono gm.size)
     clear own r9 nE
     go_wp2_with fail
     go_quiet (fail)
     go_wp2
     refine bodyPost_ret (v:=.tuple #[_,.int .i64 (a:Int),.int .i64 0]) (by simp[results,Tryz.results304,go_sem];rfl) rfl ?_
     exact⟨_,l,_,_,rfl,uP.below (below_drewN (Below.refl _ _) nq),HR.out,below_drewN rY nq⟩
    ·have HR:=hide (Bm.akX L.out (fun _=>by omega) (.inr hc))
     obtain⟨cc,hcc⟩:∃cc,Bm.cO l=cc:=⟨_,rfl⟩
     have hcb:(cc !=0)=true:=by rw[←hcc];simpa using hc
     have HC:=hide hcc
     clear hc L hcc
     go_wp2_with fail
     refine(jY _ l _ own.is HS.out.fit (by omega)).mono ?_
     rintro E w9 ⟨rfl,nE⟩
     rw[HC.out]
     have rY:Below w.heap.size w w9:=gm.trans (nE.mono gm.size)
     go_wp2
     refine bodyPost_ret (v:=.tuple #[.slice none 0 0,.int .i64 0,.int .i64 5]) (by simp[results,Tryz.results304,go_sem]) rfl ?_
     exact⟨_,[],_,_,rfl,bu.nil _ _ _,HR.out,rY⟩
   ·have e2:=r.aiI
    have HR:=hide (Bm.akX L.out (fun h=>by simp at h) (.inl rfl))
    clear L r
    go_wp2
    refine bodyPost_ret (v:=.tuple #[.slice none 0 0,.int .i64 0,.int .i64 5]) (by simp[results,Tryz.results304,go_sem]) rfl ?_
    exact⟨_,[],_,_,rfl,bu.nil _ _ _,HR.out,gm⟩
namespace Bm
open Vm Om
def LA (bs:List Int) (a0 c:Nat) (l:List Ov) (a:Nat) (bad:Bool) (ah:List UInt8):Prop:=
 (bad=false∧c≤8∧enc c<+:bs.drop a0∧dN [] l<+:bs.drop (a0+sz c)∧a=a0+sz c+(dN [] l).length∧ah=aj [] l∧∀o∈l,o.shape)∨(bad=true∧NB (bs.drop a0))
end Bm
def afB (bs:List Int) (e n:Int) (l:List Bm.Ov) (k g:Int):Prop:=
 (g=0∧∃x y:Nat,x≤1048576∧y≤1048576∧Vm.enc x<+:bs∧Vm.enc y<+:bs.drop (Vm.sz x)∧Bm.cO l=0∧Bm.dO l<+:bs.drop (Vm.sz x+Vm.sz y)∧e=x∧n=y∧k=((Vm.sz x+Vm.sz y+(Bm.dO l).length:Nat):Int))∨
 (g=5∧e=0∧n=0∧l=[]∧k=0∧∀e' n' l',Cm.chk e' n' l'=0→Cm.dW e' n' l'≠bs)
theorem adT {bs:List Int}{u i g:Int}(h:yQ bs 1048576 u i g):
  (g=0∧∃x s:Nat,x≤1048576∧Vm.enc x<+:bs∧Vm.sz x=s∧u=x∧i=s∧s≤bs.length∧s≤10)∨(g=5∧u=0∧i=0∧Cm.ah7 bs):=by
 rcases h with⟨hR,_,h2,rfl⟩|⟨rfl,rfl,rfl,x,n,e,hR,hx⟩
 ·have hb:=Vm.kg hR
  rcases hR with⟨x,h3,h4,rfl,rfl,_⟩|⟨_,_,_,h⟩
  ·exact .inl ⟨rfl,x,_,by omega,h4,rfl,rfl,rfl,by omega,by omega⟩
  ·simp at h
 ·refine .inr ⟨rfl,rfl,rfl,fun y hy hp=>?_⟩
  obtain⟨e1,e2,e3⟩:=Vm.pM hR (by omega) hp
  omega
theorem aj2 (vb:Value)(bs:List Int)(w:World)(hb:Is .u8 w vb bs)(hl:bs.length≤140737488355328):
  Calls Tryz.prog 267 #[vb] w fun E w'=>∃(e n k g:Int) (v:Value) (l:List Bm.Ov),E=.returned (.tuple #[dF e n v,.int .i64 k,.int .i64 g])∧bu 71 w.heap.size w' v l∧afB bs e n l k g∧Below w.heap.size w w':=by
 unfold dF
 obtain⟨w1,hw1,aT,ak,hB⟩:=au w #[.int .i64 0,.int .i64 0,.slice none 0 0] 35
 have hb1:=hb.below ak
 obtain⟨u,i,g,hS⟩:=rA bs 1048576
 obtain⟨ao,cap,rfl,_,_⟩:=hb.shape
 obtain⟨Z,hZ,bZ,gZ,⟨a0,a1,a2⟩,⟨f0,f1,f2⟩,⟨z0,z1,z2⟩⟩:=fI hB (.int .i64 0) (.int .i64 0) (.slice none 0 0)
 have qM:=aF ak gZ (Nat.le_refl _) (by omega)
 have HB:=hide hB
 have HS:=hide hS
 clear hB bZ gZ
 go_enter Tryz.func267,Tryz.ntmps267
 go_wp2_with fail
 refine(kS _ bs 1048576 u i g _ hb1 (by omega) (by omega) (by omega) HS.out).mono ?_
 rintro E w2 ⟨rfl,rfl⟩
 rcases adT HS.out with⟨rfl,x,s,hx,px,hsx,rfl,rfl,hsl,hs10⟩|⟨rfl,rfl,rfl,hN⟩
 ·obtain⟨vs,hvs,gy⟩:=hb1.iN Tryz.lG Tryz.mF s hsl
  obtain⟨u,i,g,hS2⟩:=rA (bs.drop s) 1048576
  have HX:Hid (Vm.enc x<+:bs∧Vm.sz x=s):=⟨px,hsx⟩
  have HS2:=hide hS2
  clear px hsx hS2 HS
  go_wp2_with fail
  refine(kS _ _ 1048576 u i g _ gy (by rw[List.length_drop];omega) (by omega) (by omega) HS2.out).mono ?_
  rintro E w2 ⟨rfl,rfl⟩
  rcases adT HS2.out with⟨rfl,y,r,hy,py,hsy,rfl,rfl,hrl,hr10⟩|⟨rfl,rfl,rfl,hN⟩
  ·rw[List.length_drop]at hrl
   obtain⟨vr,hvr,isr⟩:=hb1.iN Tryz.lG Tryz.mF (s+r) (by omega)
   have HY:Hid (Vm.enc y<+:bs.drop s∧Vm.sz y=r):=⟨py,hsy⟩
   push_cast at hvr
   clear py hsy HS2
   go_wp2_with fail
   refine(akP vr _ _ isr (by rw[List.length_drop];omega)).mono ?_
   rintro E w3 ⟨vl,l,k,e,rfl,nJ,hR,aC⟩
   have bJ:=aC.size
   have hB3:=(aC.block w.heap.size (by omega)).trans HB.out
   have aW:=ak.trans (aC.mono (by omega))
   obtain⟨px,hsx⟩:=HX.out
   obtain⟨py,hsy⟩:=HY.out
   clear HX HY hZ a0 a1 a2 f0 f1 f2 z0 z1 z2 qM ak aC hb1 gy isr hvs hvr hb
   rcases hR with⟨rfl,hc,hp,rfl⟩|⟨rfl,rfl,rfl,hno⟩
   ·obtain⟨ah,ch,hvl,_,_⟩:=nJ.is.shape
    subst hvl
    have hpl:=hp.length_le
    rw[List.length_drop]at hpl
    obtain⟨V,hV,bV,gV,⟨a0,a1,a2⟩,⟨f0,f1,f2⟩,⟨z0,z1,z2⟩⟩:=fI hB3 (.int .i64 x) (.int .i64 y) (.slice ah l.length ch)
    have aX:=aF aW gV (Nat.le_refl _) (by omega)
    have kK:=(nJ.qD gV (by omega)).bz (base':=w.heap.size) (by omega)
    have HR:Hid (afB bs x y l ((s+r+(Bm.dO l).length:Nat):Int) 0):=hide (.inl ⟨rfl,x,y,hx,hy,px,by rw[hsx];exact py,hc,by rw[hsx,hsy];exact hp,rfl,rfl,by rw[hsx,hsy]⟩)
    clear px py hsx hsy hc hp bV gV hB3 nJ aW
    go_wp2
    refine bodyPost_ret (v:=.tuple #[.agg #[.int .i64 x,.int .i64 y,.slice ah l.length ch],.int .i64 ((s+r+(Bm.dO l).length:Nat):Int),.int .i64 0]) (by simp[results,Tryz.results267,go_sem,z0,z1,z2]) rfl ?_
    exact⟨_,_,_,_,_,_,rfl,kK,HR.out,aX⟩
   ·obtain⟨V,hV,bV,gV,⟨a0,a1,a2⟩,⟨f0,f1,f2⟩,⟨z0,z1,z2⟩⟩:=fI hB3 (.int .i64 0) (.int .i64 0) (.slice none 0 0)
    have aX:=aF aW gV (Nat.le_refl _) (by omega)
    have HR:Hid (afB bs 0 0 [] 0 5):=hide (.inr ⟨rfl,rfl,rfl,rfl,rfl,Cm.anx px (by rw[hsx];exact py) (by rw[hsx,hsy];exact hno)⟩)
    clear px py hsx hsy hno bV gV hB3 nJ aW
    go_wp2
    refine bodyPost_ret (v:=.tuple #[.agg #[.int .i64 0,.int .i64 0,.slice none 0 0],.int .i64 0,.int .i64 5]) (by simp[results,Tryz.results267,go_sem,z0,z1,z2]) rfl ?_
    exact⟨_,_,_,_,_,_,rfl,bu.nil _ _ _,HR.out,aX⟩
  ·have HR:Hid (afB bs 0 0 [] 0 5):=hide (.inr ⟨rfl,rfl,rfl,rfl,rfl,Cm.ajO HX.out.1 (by rw[HX.out.2];exact hN)⟩)
   clear hN HS2 HX
   go_wp2
   refine bodyPost_ret (v:=.tuple #[.agg #[.int .i64 0,.int .i64 0,.slice none 0 0],.int .i64 0,.int .i64 5]) (by simp[results,Tryz.results267,go_sem,z0,z1,z2]) rfl ?_
   exact⟨_,_,_,_,_,_,rfl,bu.nil _ _ _,HR.out,qM⟩
 ·have HR:Hid (afB bs 0 0 [] 0 5):=hide (.inr ⟨rfl,rfl,rfl,rfl,rfl,Cm.amn hN⟩)
  clear hN HS
  go_wp2
  refine bodyPost_ret (v:=.tuple #[.agg #[.int .i64 0,.int .i64 0,.slice none 0 0],.int .i64 0,.int .i64 5]) (by simp[results,Tryz.results267,go_sem,z0,z1,z2]) rfl ?_
  exact⟨_,_,_,_,_,_,rfl,bu.nil _ _ _,HR.out,qM⟩
def ends (l:List Cm.Cv):List Int:=(List.range l.length).map fun i=>((Wl.bD (l.take (i+1))).length:Int)
theorem sG (l:List Cm.Cv):(ends l).length=l.length:=by simp[ends]
theorem arG (l:List Cm.Cv)(i:Nat)(hi:i<l.length):(ends l).getD i 0=(Wl.bD (l.take (i+1))).length:=by
 simp[ends,List.getD_eq_getElem?_getD,hi]
theorem ak3 (l:List Cm.Cv)(c:Cm.Cv):ends (l++[c])=ends l++[((Wl.bD (l++[c])).length:Int)]:=by
 unfold ends
 rw[List.length_append,List.length_singleton,List.range_succ,List.map_append]
 congr 1
 ·apply List.map_congr_left
  intro i hi
  rw[List.mem_range]at hi
  rw[List.take_append_of_le_length (by omega)]
 ·rw[List.map_singleton,List.take_of_length_le (by simp)]
theorem eU {l:List Cm.Cv}(h:Cm.Good 0 0 l):l.length≤1048576:=by
 rcases List.eq_nil_or_concat l with rfl|⟨r,c,rfl⟩
 ·simp
 ·have hk:(r.concat c)[r.length]? =some c:=by rw[List.concat_eq_append];simp
  obtain⟨h1,h2,_⟩:=Cm.ma (r.concat c) 0 0 r.length c h hk
  have:=Cm.aV h1
  rw[List.concat_eq_append,List.length_append,List.length_singleton]
  omega
theorem afn {l:List Cm.Cv}(h:Cm.Good 0 0 l):(Wl.bD l).length≤454033408:=by
 have h1:=Wl.acP h
 have h2:=eU h
 omega
theorem amW {rs:List Cw}{l:List Cm.Cv}(h:Cm.Good 0 0 l)(he:aH rs=l):jr rs∧∀c∈rs,In64 c.e∧In64 c.n∧c.l.length≤8:=by
 have key:∀c∈rs,Cm.chk c.e c.n c.l=0:=by
  intro c hc
  obtain⟨k,hk⟩:=List.getElem?_of_mem hc
  have:l[k]? =some c.c:=by rw[←he,aH,List.getElem?_map,hk];rfl
  exact(Cm.ma l 0 0 k c.c h this).1
 constructor
 ·intro c hc
  obtain⟨_,_,_,_,h5⟩:=Cm.aV (key c hc)
  have:=(Bm.dJ h5).2.1
  exact⟨(sK h5).fit,by omega⟩
 ·intro c hc
  obtain⟨h1,h2,h3,h4,h5⟩:=Cm.aV (key c hc)
  have:=(Bm.dJ h5).2.1
  exact⟨⟨by omega,by omega⟩,⟨by omega,by omega⟩,this⟩
structure Lr (base:Nat) (w:World) (vc ve:Value) (rs:List Cw) (zs:List Int):Prop where
 row:bK 35 base w vc rs
 kr:gP base w rs
 en:Own .i64 3 base w ve zs
structure Lw (base:Nat) (w:World) (l:List Cm.Cv) (vc ve:Value) (rs:List Cw):Prop where
 r:Lr base w vc ve rs (ends l)
 is:aH rs=l
 good:Cm.Good 0 0 l
def LB (vc ve:Value) (rs:List Cw) (g:Nat):Prop:=vc.ownBlock=some g∨ve.ownBlock=some g∨∃c∈rs,c.v.ownBlock=some g
section
variable {base base':Nat} {w w':World} {l:List Cm.Cv} {vc ve:Value} {rs:List Cw} {F G:Nat→Prop}
theorem Lr.nil (base:Nat)(w:World):Lr base w (.slice none 0 0) (.slice none 0 0) [] []:=⟨bK.nil _ _ _,fun c hc=>by simp at hc,Own.nil _ _ _ _⟩
theorem Lw.nil (base:Nat)(w:World):Lw base w [] (.slice none 0 0) (.slice none 0 0) []:=⟨Lr.nil _ _,rfl,trivial⟩
theorem Lr.ty {zs:List Int}(h:Lr base w vc ve rs zs):∀g,LB vc ve rs g→∃cs t,w.heap[g]? =some (.cells cs t (0,0))∧(t=35∨t=3∨t=71):=by
 rintro g (hb|hb|⟨c,hc,hb⟩)
 ·obtain⟨cs,e⟩:=h.row.type hb
  exact⟨_,_,e,.inl rfl⟩
 ·obtain⟨cs,e⟩:=h.en.type hb
  exact⟨_,_,e,.inr (.inl rfl)⟩
 ·obtain⟨cs,e⟩:=(h.kr c hc).type hb
  exact⟨_,_,e,.inr (.inr rfl)⟩
theorem Lr.lt {zs:List Int}(h:Lr base w vc ve rs zs):∀g,LB vc ve rs g→g<w.heap.size:=fun g hg=>by
 obtain⟨cs,t,e,_⟩:=h.ty g hg
 exact aA e
theorem Lr.agree {zs:List Int}(h:Lr base w vc ve rs zs)(ha:∀g,LB vc ve rs g→w'.heap[g]? =w.heap[g]?):Lr base w' vc ve rs zs:=
 ⟨dw h.row fun b hb=>ha b (.inl hb),fun c hc=>dw (h.kr c hc) fun b hb=>ha b (.inr (.inr ⟨c,hc,hb⟩)),h.en.agree fun b hb=>ha b (.inr (.inl hb))⟩
theorem Lr.below {zs:List Int}(h:Lr base w vc ve rs zs)(hb:Below w.heap.size w w'):Lr base w' vc ve rs zs:=h.agree fun g hg=>hb.block g (h.lt g hg)
theorem Lr.ne {zs:List Int}(h:Lr base w vc ve rs zs){b:Nat}{cs:Array Value}{t:TypeId}{fr:Nat×Nat}(hb:w.heap[b]? =some (.cells cs t fr))(h1:t≠35)(h2:t≠3)(h3:t≠71):¬LB vc ve rs b:=by
 intro hg
 obtain⟨cs',t',e,ht⟩:=h.ty b hg
 rw[hb]at e
 simp only[Option.some.injEq,Obj.cells.injEq]at e
 obtain⟨_,e2,_⟩:=e
 subst e2
 rcases ht with e|e|e
 ·exact h1 e
 ·exact h2 e
 ·exact h3 e
theorem Lw.ty (h:Lw base w l vc ve rs):∀g,LB vc ve rs g→∃cs t,w.heap[g]? =some (.cells cs t (0,0))∧(t=35∨t=3∨t=71):=h.r.ty
theorem Lw.lt (h:Lw base w l vc ve rs):∀g,LB vc ve rs g→g<w.heap.size:=h.r.lt
theorem Lw.agree (h:Lw base w l vc ve rs)(ha:∀g,LB vc ve rs g→w'.heap[g]? =w.heap[g]?):Lw base w' l vc ve rs:=⟨h.r.agree ha,h.is,h.good⟩
theorem Lw.below (h:Lw base w l vc ve rs)(hb:Below w.heap.size w w'):Lw base w' l vc ve rs:=⟨h.r.below hb,h.is,h.good⟩
theorem Lw.len (h:Lw base w l vc ve rs):rs.length=l.length:=by rw[←h.is,aH,List.length_map]
structure yn (p q:Nat) (w:World) (l:List Cm.Cv) (bk:Bool) (vc ve:Value) (rs:List Cw):Prop where
 blk:w.heap[p]? =some (.cells #[.pointer (some ⟨q,0,none⟩),.bool bk,vc,ve] 196 (0,0))
 log:Lw 0 w l vc ve rs
def Wk (p q:Nat) (G:Nat→Prop) (w:World) (l:List Cm.Cv) (bk:Bool):Prop:=∃vc ve rs,yn p q w l bk vc ve rs∧G=fun g=>g=p∨LB vc ve rs g
theorem yn.ty {p q:Nat}{bk:Bool}(h:yn p q w l bk vc ve rs):∀g,g=p∨LB vc ve rs g→∃cs t,w.heap[g]? =some (.cells cs t (0,0))∧(t=196∨t=35∨t=3∨t=71):=by
 rintro g (rfl|hg)
 ·exact⟨_,_,h.blk,.inl rfl⟩
 ·obtain⟨cs,t,e,ht⟩:=h.log.ty g hg
  exact⟨cs,t,e,.inr ht⟩
theorem Wk.ty {p q:Nat}{bk:Bool}(h:Wk p q G w l bk):∀g,G g→∃cs t,w.heap[g]? =some (.cells cs t (0,0))∧(t=196∨t=35∨t=3∨t=71):=by
 obtain⟨vc,ve,rs,h,rfl⟩:=h
 exact h.ty
theorem Wk.lt {p q:Nat}{bk:Bool}(h:Wk p q G w l bk):∀g,G g→g<w.heap.size:=fun g hg=>by
 obtain⟨cs,t,e,_⟩:=h.ty g hg
 exact aA e
theorem Wk.agree {p q:Nat}{bk:Bool}(h:Wk p q G w l bk)(ha:∀g,G g→w'.heap[g]? =w.heap[g]?):Wk p q G w' l bk:=by
 obtain⟨vc,ve,rs,h,rfl⟩:=h
 exact⟨vc,ve,rs,⟨(ha p (.inl rfl)).trans h.blk,h.log.agree fun g hg=>ha g (.inr hg)⟩,rfl⟩
theorem Wk.below {p q:Nat}{bk:Bool}(h:Wk p q G w l bk)(hb:Below w.heap.size w w'):Wk p q G w' l bk:=h.agree fun g hg=>hb.block g (h.lt g hg)
theorem Wk.out {p q:Nat}{bk:Bool}(h:Wk p q G w l bk)(ho:Out F w w')(hd:∀g,G g→¬F g):Wk p q G w' l bk:=h.agree fun g hg=>ho.block g (h.lt g hg) (hd g hg)
theorem Wk.good {p q:Nat}{bk:Bool}(h:Wk p q G w l bk):Cm.Good 0 0 l:=by
 obtain⟨vc,ve,rs,h,rfl⟩:=h
 exact h.log.good
theorem wW {p q q':Nat}{bk:Bool}{st:Dm.Ds}(h:Wk p q G w l bk)(k:Pk q' F w st):∀g,G g→¬F g:=by
 intro g hg hf
 obtain⟨cs,t,e,ht⟩:=h.ty g hg
 obtain⟨cs',t',fr,e',ht'⟩:=k.ty g hf
 rw[e]at e'
 simp only[Option.some.injEq,Obj.cells.injEq]at e'
 obtain⟨_,e2,_⟩:=e'
 subst e2
 rcases ht with rfl|rfl|rfl|rfl<;>rcases ht' with e|e|e<;>exact absurd e (by decide)
end
def WW (p q:Nat) (F:Nat→Prop) (w:World) (s:Wl.Ws):Prop:=∃F1 G1,Pk q F1 w s.d∧Wk p q G1 w s.l s.bk∧F=fun g=>F1 g∨G1 g
def iG (p q:Nat) (F:Nat→Prop) (w w':World) (s':Wl.Ws):Prop:=∃F',WW p q F' w' s'∧Out F w w'∧∀g,F' g→F g∨w.heap.size≤g
section
variable {p q:Nat} {F G:Nat→Prop} {w w' w1 w2:World} {s s':Wl.Ws} {st':Dm.Ds}
theorem WW.lt (h:WW p q F w s):∀g,F g→g<w.heap.size:=by
 obtain⟨F1,G1,h1,h2,rfl⟩:=h
 rintro g (hg|hg)
 ·exact h1.lt g hg
 ·exact h2.lt g hg
theorem WW.agree (h:WW p q F w s)(ha:∀g,F g→w'.heap[g]? =w.heap[g]?):WW p q F w' s:=by
 obtain⟨F1,G1,h1,h2,rfl⟩:=h
 exact⟨F1,G1,h1.agree fun g hg=>ha g (.inl hg),h2.agree fun g hg=>ha g (.inr hg),rfl⟩
theorem WW.below (h:WW p q F w s)(hb:Below w.heap.size w w'):WW p q F w' s:=h.agree fun g hg=>hb.block g (h.lt g hg)
theorem WW.good (h:WW p q F w s):Cm.Good 0 0 s.l:=by
 obtain⟨F1,G1,h1,h2,rfl⟩:=h
 exact h2.good
theorem iG.trans {F1:Nat→Prop}(ho:Out F w w1)(hs:∀g,F1 g→F g∨w.heap.size≤g)(k:iG p q F1 w1 w2 s'):iG p q F w w2 s':=by
 obtain⟨F2,h1,h2,h3⟩:=k
 refine⟨F2,h1,ho.trans h2 hs,fun g hg=>?_⟩
 rcases h3 g hg with h|h
 ·exact hs g h
 ·exact .inr (Nat.le_trans ho.size h)
theorem iG.pre (hb:Below w.heap.size w w1)(h:iG p q F w1 w2 s'):iG p q F w w2 s':=h.trans (Out.of_below hb) fun g hg=>.inl hg
theorem WW.disk {F1 G1:Nat→Prop}{l:List Cm.Cv}{bk:Bool}(h1:Pk q F1 w s.d)(h2:Wk p q G1 w l bk)(k:bT q F1 w w' st'):
  ∃F2,Pk q F2 w' st'∧Wk p q G1 w' l bk∧Out F1 w w'∧∀g,F2 g→F1 g∨w.heap.size≤g:=by
 obtain⟨F2,k1,k2,k3⟩:=k
 exact⟨F2,k1,h2.out k2 (wW h2 h1),k2,k3⟩
end
def aaW (e n:Int) (l:List Bm.Ov):Prop:=In64 e∧In64 n∧fZ l∧l.length≤8
theorem aaZ:aaW 0 0 []:=⟨by simp[In64],by simp[In64],fun o ho=>by simp at ho,by simp⟩
theorem aqk {e n:Int}{l:List Bm.Ov}(h:Cm.chk e n l=0):aaW e n l:=by
 obtain⟨h1,h2,h3,h4,h5⟩:=Cm.aV h
 exact⟨⟨by omega,by omega⟩,⟨by omega,by omega⟩,(sK h5).fit,(Bm.dJ h5).2.1⟩
structure mO (b:Nat) (w:World) (vc:Value) (cs:List Cw):Prop where
 c:bK 35 b w vc cs
 o:gP b w cs
 i:∀c∈cs,In64 c.e∧In64 c.n
 ap:yw cs
 f:jr cs
theorem mO.nil (b:Nat)(w:World):mO b w (.slice none 0 0) []:=⟨bK.nil _ _ _,fun c hc=>by simp at hc,fun c hc=>by simp at hc,fun i j c d _ hc=>by simp at hc,fun c hc=>by simp at hc⟩
theorem mO.below {b:Nat}{w w':World}{vc:Value}{cs:List Cw}(h:mO b w vc cs)(hb:Below w.heap.size w w'):mO b w' vc cs:=⟨h.c.below hb,h.o.below hb,h.i,h.ap,h.f⟩
theorem mO.out {b:Nat}{w w':World}{vc:Value}{cs:List Cw}{F:Nat→Prop}(h:mO b w vc cs)(ho:Out F w w')(hF:∀i,F i→i<b):mO b w' vc cs:=by
 have k:∀(v:Value),(∀g,v.ownBlock=some g→b≤g∧g<w.heap.size)→∀g,v.ownBlock=some g→w'.heap[g]? =w.heap[g]? :=fun v hv g hg=>ho.block g (hv g hg).2 fun hf=>by have:=hF g hf;have:=(hv g hg).1;omega
 exact⟨dw h.c (k _ (World.ownsRow.lt h.c)),fun c hc=>dw (h.o c hc) (k _ (World.ownsRow.lt (h.o c hc))),h.i,h.ap,h.f⟩
theorem mO.snoc {b:Nat}{w z4:World}{vc v4:Value}{cs:List Cw}{e n:Int}{vl:Value}{l:List Bm.Ov}{N:Nat}(h:mO b w vc cs)(kp:bH 35 w z4)(hc:bK 35 b z4 v4 (cs++[⟨e,n,vl,l⟩]))(ho:bu 71 N w vl l)(hN:b≤N)(hlt:∀d∈cs,∀g,d.v.ownBlock=some g→g<N)(hf:aaW e n l):mO b z4 v4 (cs++[⟨e,n,vl,l⟩]):=by
 refine⟨hc,(h.o.p9 kp).snoc ((ho.bz hN).p9 kp (by decide)),fun c hcc=>?_,ad3 h.ap hlt (fun g hg=>(World.ownsRow.lt ho g hg).1),fun c hcc=>?_⟩
 ·rcases List.mem_append.1 hcc with hcc|hcc
  ·exact h.i c hcc
  ·rw[List.mem_singleton.1 hcc];exact⟨hf.1,hf.2.1⟩
 ·rcases List.mem_append.1 hcc with hcc|hcc
  ·exact h.f c hcc
  ·rw[List.mem_singleton.1 hcc];exact⟨hf.2.2.1,by have:=hf.2.2.2;show l.length*40≤_;omega⟩
structure Sw where
 e:Int
 f:Int
 v:Value
 rs:List Cw
end Go.Proofs.YtlmkaljjocflmaaGreatDoor
