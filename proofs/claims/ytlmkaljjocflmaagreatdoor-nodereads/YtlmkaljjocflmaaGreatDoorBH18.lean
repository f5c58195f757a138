/- Texts. -/
import Derived.Test.YtlmkaljjocflmaaGreatDoorBH3
import Derived.Test.YtlmkaljjocflmaaGreatDoorBH8
import Derived.Test.YtlmkaljjocflmaaGreatDoorBH1
import Derived.Test.YtlmkaljjocflmaaGreatDoorBH4
import Derived.Test.YtlmkaljjocflmaaGreatDoorBH2
import Derived.Test.YtlmkaljjocflmaaGreatDoorBH5
import Derived.Test.YtlmkaljjocflmaaGreatDoorBG2
import Derived.Test.YtlmkaljjocflmaaGreatDoorBH6
import Derived.BigQuiet
set_option maxRecDepth 100000
set_option maxHeartbeats 8000000
set_option linter.unusedVariables false
open Go.Proofs.Tryz
namespace Go.Proofs.YtlmkaljjocflmaaGreatDoor
open Go.RowKit
set_option maxRecDepth 100000
theorem af1 (z:Int)(h0:-9223372036854775808≤z)(h1:z<9223372036854775808):IntKind.i64.wrap z=z:=by
 unfold IntKind.wrap
 simp[IntKind.bits,IntKind.signed]
 omega
def ei (bad:Bool):Int:=if bad then 5 else 0
def fJ (w0 w:World) (g:Nat) (vb:Value) (bs:List Int) (a:Nat) (bad:Bool):Prop:=
 Is .u8 w0 vb bs∧w0.heap.size≤g∧Below w0.heap.size w0 w∧w.heap[g]? =some (.cells #[vb,.int .i64 a,.int .i64 (ei bad)] 352 (0,0))∧a≤bs.length
section
variable {w0 w w':World} {g a:Nat} {vb:Value} {bs:List Int} {bad:Bool}
theorem fJ.lt (h:fJ w0 w g vb bs a bad):g<w.heap.size:=ay h.2.2.2.1
theorem fJ.is (h:fJ w0 w g vb bs a bad):Is .u8 w vb bs:=h.1.below h.2.2.1
theorem fJ.below (h:fJ w0 w g vb bs a bad)(hb:Below w.heap.size w w'):fJ w0 w' g vb bs a bad:=
 ⟨h.1,h.2.1,h.2.2.1.trans (hb.mono h.2.2.1.size),(hb.block g h.lt).trans h.2.2.2.1,h.2.2.2.2⟩
theorem fJ.grown (h:fJ w0 w g vb bs a bad){row:Nat}(hb:w.grownBy w' (some row))(hr:w0.heap.size≤row)(hne:row≠g):fJ w0 w' g vb bs a bad:=
 ⟨h.1,h.2.1,h.2.2.1.grown hb h.2.2.1.size (fun k hk=>by simp at hk;omega),(hb.block g h.lt (by simp;omega)).trans h.2.2.2.1,h.2.2.2.2⟩
theorem fJ.cell0 (h:fJ w0 w g vb bs a bad):w.cell? ⟨g,0,none⟩=some vb:=ai h.2.2.2.1 0 rfl
theorem fJ.cell1 (h:fJ w0 w g vb bs a bad):w.cell? ⟨g,1,none⟩=some (.int .i64 a):=ai h.2.2.2.1 1 rfl
theorem fJ.asu (h:fJ w0 w g vb bs a bad):w.cell? ⟨g,2,none⟩=some (.int .i64 (ei bad)):=ai h.2.2.2.1 2 rfl
theorem fJ.good (h:fJ w0 w g vb bs a false):w.cell? ⟨g,2,none⟩=some (.int .i64 0):=h.asu
theorem fJ.ai6 (h:fJ w0 w g vb bs a true):w.cell? ⟨g,2,none⟩=some (.int .i64 5):=h.asu
theorem fJ.lH (h:fJ w0 w g vb bs a bad)(j:Nat):w.frozen? ⟨g,j,none⟩=false:=aA h.2.2.2.1 j
theorem fJ.aoK (h:fJ w0 w g vb bs a bad)(a':Nat)(ha:a'≤bs.length):fJ w0 (w.setCell ⟨g,1,none⟩ (.int .i64 a')) g vb bs a' bad:=
 ⟨h.1,h.2.1,h.2.2.1.setCell (p:=⟨g,1,none⟩) h.2.1 _,by rw[aF h.2.2.2.1];rfl,ha⟩
theorem fJ.aiR (h:fJ w0 w g vb bs a bad)(bad':Bool):fJ w0 (w.setCell ⟨g,2,none⟩ (.int .i64 (ei bad'))) g vb bs a bad':=
 ⟨h.1,h.2.1,h.2.2.1.setCell (p:=⟨g,2,none⟩) h.2.1 _,by rw[aF h.2.2.2.1];rfl,h.2.2.2.2⟩
end
theorem ahz (vb:Value)(bs:List Int)(most u i g:Int)(w:World)(hb:Is .u8 w vb bs)(hl:bs.length≤140737488355328)(hm:most<9223372036854775808)(hm':-9223372036854775808≤most)(hS:aaJ bs most u i g):
  Calls prog 203 #[vb,.int .i64 most] w fun E w'=>E=.returned (.tuple #[.int .i64 u,.int .i64 i,.int .i64 g])∧∃m,w'=w.drewN m:=
 (lS vb bs most u i g w hb (by omega) hm hm' hS).mono (by rintro E w' ⟨rfl,rfl⟩;exact⟨rfl,0,rfl⟩)
theorem qK (w0 w:World)(g:Nat)(vb:Value)(bs:List Int)(a:Nat)(bad:Bool)(most:Nat)(h:fJ w0 w g vb bs a bad)(hl:bs.length≤140737488355328)(hm:most<9223372036854775808):
  Calls prog 329 #[.pointer (some ⟨g,0,none⟩),.int .i64 most] w fun E w'=>∃(u a':Nat) (bad':Bool),E=.returned (.int .i64 u)∧fJ w0 w' g vb bs a' bad'∧w.grownBy w' (some g)∧Bm.SS bs most a bad u a' bad':=by
 have c0:=h.cell0
 have c1:=h.cell1
 have f1:=h.lH 1
 have f2:=h.lH 2
 have ha:=h.2.2.2.2
 cases bad
 ·have c2:=h.good
  obtain⟨vs,hsl,gT⟩:=h.is.jo Tryz.lZ Tryz.nH a ha
  obtain⟨u,i,e,hS⟩:=uk (bs.drop a) most
  have hdl:(bs.drop a).length=bs.length-a:=by rw[List.length_drop]
  rcases hS with⟨hR,h1,h2,he⟩|⟨hu,hi,he,x,n,f,hR,hcase⟩
  ·have hbd:=Vm.kG hR
   obtain⟨un,rfl⟩:∃un:Nat,u=un:=⟨u.toNat,by omega⟩
   obtain⟨n,rfl⟩:∃n:Nat,i=n:=⟨i.toNat,by omega⟩
   have hG:Bm.SS bs most a false un (a+n) false:=by
    rcases hR with⟨x,hx,hp,h3,h4,_⟩|⟨_,_,_,h5⟩
    ·have:x=un:=by omega
     subst this
     exact .inr (.inr ⟨rfl,rfl,by omega,hp,by omega⟩)
    ·simp at h5
   have hS:aaJ (bs.drop a) most un n 0:=.inl ⟨hR,h1,h2,rfl⟩
   have HG:=hide hG
   have HS:=hide hS
   have HH:=hide h
   have hn1:a+n≤bs.length:=by omega
   have hn2:n≤10:=by omega
   clear hS hG hR hbd h he h1 h2
   go_enter func329,ntmps329
   go_wp2_with fail
   go_quiet ((go_at_call 203;refine Calls.quiet_of (ahz _ (bs.drop a) most un n 0 _ (gT.drewN _) (by omega) (by omega) (by omega) HS.out)))
   have r1:=HH.out.below (below_drewN (Below.refl _ _) nq)
   have R3:=hide ((r1.aoK (a+n) hn1).aiR false)
   clear r1 gT hsl
   go_wp2
   go_ret
   exact⟨un,a+n,false,rfl,R3.out,aH (aH (jG _ _ _) (ax _ _ _)) (ax _ _ _),HG.out⟩
  ·have hG:Bm.SS bs most a false 0 a true:=by
    refine .inr (.inl ⟨rfl,rfl,rfl,rfl,fun y hy hp=>?_⟩)
    have:=Vm.qC hR (u:=y) (by omega) hp
    omega
   have hS:aaJ (bs.drop a) most 0 0 5:=.inr ⟨rfl,rfl,rfl,x,n,f,hR,hcase⟩
   have HG:=hide hG
   have HS:=hide hS
   have HH:=hide h
   clear hS hG hR h he hcase hu hi
   go_enter func329,ntmps329
   go_wp2_with fail
   go_quiet ((go_at_call 203;refine Calls.quiet_of (ahz _ (bs.drop a) most 0 0 5 _ (gT.drewN _) (by omega) (by omega) (by omega) HS.out)))
   have r1:=HH.out.below (below_drewN (Below.refl _ _) nq)
   have R3:=hide ((r1.aoK a ha).aiR true)
   clear r1 gT hsl
   go_wp2
   go_ret
   exact⟨0,a,true,rfl,R3.out,aH (aH (jG _ _ _) (ax _ _ _)) (ax _ _ _),HG.out⟩
 ·have c2:=h.ai6
  have HH:=hide h
  clear h
  go_enter func329,ntmps329
  go_wp2
  go_ret
  exact⟨0,a,true,rfl,HH.out,World.grownBy.refl _ _,.inl ⟨rfl,rfl,rfl,rfl⟩⟩
theorem adl (w0 w:World)(g:Nat)(vb:Value)(bs:List Int)(a:Nat)(bad:Bool)(n:Nat)(h:fJ w0 w g vb bs a bad)(hl:bs.length≤140737488355328)(hm:n<4611686018427387904):
  Calls prog 343 #[.pointer (some ⟨g,0,none⟩),.int .i64 n] w fun E w'=>∃(s:ByteArray) (zs:List Int) (a':Nat) (bad':Bool),E=.returned (.string s)∧s.data.toList=Om.iM zs∧fJ w0 w' g vb bs a' bad'∧w.grownBy w' (some g)∧Bm.BS bs n a bad zs a' bad':=by
 have c0:=h.cell0
 have c1:=h.cell1
 have f1:=h.lH 1
 have f2:=h.lH 2
 have ha:=h.2.2.2.2
 have hlen:=h.is.as1 Tryz.lZ
 cases bad
 ·have c2:=h.good
  by_cases hn:n≤bs.length-a
  ·obtain⟨vs,hsl,gT⟩:=h.is.qB Tryz.lZ Tryz.nH a (a+n) (by omega) (by omega)
   rw[show a+n-a=n by omega]at gT
   have hsl2:∀wx,(Instr.slice 61 vb (some (.int .i64 (a:Int))) (some (.int .i64 ((a:Int)+(n:Int)))) none).run prog wx=.ok vs wx:=by simpa using hsl
   have hwr:IntKind.i64.wrap ((a:Int)+(n:Int))=(a:Int)+n:=af1 _ (by omega) (by omega)
   have asQ:=fun m=>(gT.drewN m).conv underlying61 underlying5 underlying9
   clear hsl
   have hge:¬(bs.length:Int)-a<n:=by omega
   have HH:=hide h
   clear h
   go_enter func343,ntmps343
   go_wp2_with fail
   go_quiet (fail)
   go_wp2_with fail
   generalize nq=n1
   have axA:=fun m=>asQ (n1+m)
   go_quiet (fail)
   have r1:=HH.out.below (below_drewN (Below.refl _ _) (n1+nq))
   have k1:=r1.cell1
   have g1:=r1.lH 1
   have R1:=hide r1
   clear r1 asQ axA gT hsl2
   go_wp2
   go_ret
   exact⟨_,(bs.drop a).take n,a+n,false,rfl,by simp,R1.out.aoK (a+n) (by omega),aH (jG _ _ _) (ax _ _ _),.inr ⟨rfl,hn,rfl,rfl,rfl⟩⟩
  ·have hge:(bs.length:Int)-a<n:=by omega
   have HH:=hide h
   clear h
   go_enter func343,ntmps343
   go_wp2_with fail
   go_quiet (fail)
   go_wp2
   go_ret
   exact⟨_,[],a,true,rfl,rfl,(HH.out.below (below_drewN (Below.refl _ _) nq)).aiR true,aH (jG _ _ _) (ax _ _ _),.inl ⟨.inr (by omega),rfl,rfl,rfl⟩⟩
 ·have c2:=h.ai6
  have HH:=hide h
  clear h
  go_enter func343,ntmps343
  go_wp2
  go_ret
  exact⟨_,[],a,true,rfl,rfl,HH.out,World.grownBy.refl _ _,.inl ⟨.inl rfl,rfl,rfl,rfl⟩⟩
theorem Tryz.ak6:∀args w,(callFunc 343 args).run prog w=.ok (.enter 343 args) w:=enters_of func343 (by kernel_rfl) rfl
theorem aon {bs zs:List Int}{n sh a a':Nat}{bad bad':Bool}{s:ByteArray}(hs:s.data.toList=Om.iM zs)(h:Bm.BS bs n a bad zs a' bad')(hn:n≤16-sh)(hsh:sh≤16):¬9223372036854775807<sh+s.size:=by
 have:=Bm.aeu h
 have e:=congrArg List.length hs
 rw[Om.jX,←Lib.size_eq]at e
 omega
theorem ae5 (w0 w:World)(g:Nat)(vb:Value)(bs:List Int)(a:Nat)(bad:Bool)(ah:ByteArray)(h:fJ w0 w g vb bs a bad)(hl:bs.length≤140737488355328)(hah:ah.size≤16):
  Calls prog 342 #[.pointer (some ⟨g,0,none⟩),.string ah] w fun E w'=>∃(k:ByteArray) (a':Nat) (bad':Bool),E=.returned (.string k)∧fJ w0 w' g vb bs a' bad'∧w.grownBy w' (some g)∧Bm.KS bs a bad ah.data.toList k.data.toList a' bad':=by
 have hal:ah.data.toList.length=ah.size:=(Lib.size_eq ah).symm
 go_enter func342,ntmps342
 go_wp2_with fail
 refine(qK w0 w g vb bs a bad ah.size h hl (by omega)).mono ?_
 rintro E w1 ⟨sh,a1,iB,rfl,r1,zV,s1⟩
 have hsh:=Bm.uG s1
 have hsub:(16:Int)-sh=((16-sh:Nat):Int):=by omega
 have S1:=hide s1
 clear s1 h
 go_wp2_with fail
 refine(qK w0 w1 g vb bs a1 iB (16-sh) r1 hl (by omega)).mono ?_
 rintro E w2 ⟨n,a2,jB,rfl,r2,iU,s2⟩
 have hn:=Bm.uG s2
 have S2:=hide s2
 have R2:=hide r2
 clear s2 r1 r2
 have X:Hid (∀m,Calls prog 343 #[.pointer (some ⟨g,0,none⟩),.int .i64 n] (w2.drewN m) fun E w'=>∃v,E=.returned v∧∃(s:ByteArray) (zs:List Int) (a':Nat) (bad':Bool),v=.string s∧s.data.toList=Om.iM zs∧fJ w0 w' g vb bs a' bad'∧(w2.drewN m).grownBy w' (some g)∧Bm.BS bs n a2 jB zs a' bad'):=
  hide fun m=>(adl w0 (w2.drewN m) g vb bs a2 jB n (R2.out.below (below_drewN (Below.refl _ _) m)) hl (by omega)).mono (by rintro E w' ⟨s,zs,a',bad',rfl,h⟩;exact⟨_,rfl,s,zs,a',bad',rfl,h⟩)
 go_wp2_with fail
 go_region_law (refine wW rfl 343 #[.tmp 19,.tmp 20] #[366,3] rfl Tryz.ak6 #[.pointer (some ⟨g,0,none⟩),.int .i64 n] (by simp[Act.eval,Act.put]) (X.out _) ?_;rintro vv w3 ⟨s,zs,a3,qh,rfl,hs,r3,zU,s3⟩;have hss:=aon hs s3 hn (by omega))
 all_goals
  have hsz:s.size≤16:=by
   have:=Bm.aeu s3
   have e:=congrArg List.length hs
   rw[Om.jX,←Lib.size_eq]at e
   omega
  have hdat:(ah.extract 0 sh++s).data.toList=ah.data.toList.take sh++Om.iM zs:=by rw[←hs];simp
  have hksz:(ah.extract 0 sh++s).size≤32:=by rw[Lib.size_eq,hdat,List.length_append,←hs,←Lib.size_eq,List.length_take];omega
  have gr:w.grownBy w3 (some g):=aH zV (aH iU (aH (jG _ 1 _) zU))
  generalize ah.extract 0 sh++s=K at*
  rw[←hal]at S1
  have HK:∀bad',bad'=(qh||decide (Bm.com ah.data.toList K.data.toList≠sh))→Bm.KS bs a bad ah.data.toList K.data.toList a3 bad':=fun bad' e=>⟨sh,n,zs,a1,iB,a2,jB,qh,S1.out,S2.out,s3,hdat,e⟩
  have HK:=hide HK
  clear hdat hs s3 zV iU zU X hss
  have f2:=r3.lH 2
  cases qh
  ·have c2:=r3.good
   have R3:=hide r3
   clear r3
   go_wp2_with fail
   refine(vL ah K _ (by omega) (by omega)).mono ?_
   rintro E w4 ⟨rfl,aL⟩
   have r4:=R3.out.below aL
   have f4:=r4.lH 2
   have d2:=r4.good
   have R4:=hide r4
   have qM:w.grownBy w4 (some g):=aH gr (kK aL _)
   clear r4 R3 aL gr c2 f2
   by_cases hc:Bm.com ah.data.toList K.data.toList=sh
   ·have hb:((Bm.com ah.data.toList K.data.toList:Int) !=(sh:Int))=false:=by rw[hc];simp
    have HK2:=hide (HK.out false (by simp[hc]))
    clear hc
    go_wp2
    go_ret
    exact⟨K,a3,false,rfl,R4.out,qM,HK2.out⟩
   ·have hb:((Bm.com ah.data.toList K.data.toList:Int) !=(sh:Int))=true:=by simp;omega
    have HK2:=hide (HK.out true (by simp[hc]))
    clear hc
    go_wp2
    go_ret
    exact⟨K,a3,true,rfl,R4.out.aiR true,aH qM (ax _ _ _),HK2.out⟩
  ·have c2:=r3.ai6
   have R3:=hide r3
   clear r3
   go_wp2
   go_ret
   exact⟨K,a3,true,rfl,R3.out,gr,HK.out true (by simp)⟩
theorem at6 (w0 w:World)(g:Nat)(vb:Value)(bs:List Int)(a:Nat)(bad:Bool)(ah:ByteArray)(h:fJ w0 w g vb bs a bad)(hl:bs.length≤140737488355328)(hah:ah.size≤16):
  Calls prog 330 #[.pointer (some ⟨g,0,none⟩),.string ah] w fun E w'=>∃(o:Bm.Ov) (a':Nat) (bad':Bool),E=.returned (xP o.p o.k o.v)∧fJ w0 w' g vb bs a' bad'∧w.grownBy w' (some g)∧Bm.OS bs a bad ah.data.toList o a' bad'∧o.k.size≤16∧o.v.size≤32:=by
 unfold xP
 have hby:=h.is.bytes
 have hg:=h.lt
 have hw0:=h.2.2.1.size
 obtain⟨W,hW,szW,ky,ayb⟩:=au w #[.bool false,.string ⟨#[]⟩,.string ⟨#[]⟩] 71
 have r0:=h.below ky
 have grW:=kK ky (some g)
 have HBY:=hide hby
 clear h hby
 go_enter func330,ntmps330
 go_wp2_with fail
 refine(qK w0 W g vb bs a bad 1 r0 hl (by omega)).mono ?_
 rintro E w1 ⟨mark,a1,iB,rfl,r1,zV,s1⟩
 have aV:=zV.size
 have aei:=(zV.block w.heap.size (by omega) (by simp;omega)).trans ayb
 have hmark:=Bm.uG s1
 have grA:w.grownBy w1 (some g):=aH grW zV
 clear r0 grW zV ayb ky hW
 rcases(show mark=0∨mark=1 by omega)with rfl|rfl
 ·have S1:=hide s1
  clear s1
  go_wp2_with fail
  refine(ae5 w0 w1 g vb bs a1 iB ah r1 hl hah).mono ?_
  rintro E w2 ⟨k,a2,jB,rfl,r2,iU,ks⟩
  have dA:=iU.size
  have aa9:=(iU.block w.heap.size (by omega) (by simp;omega)).trans aei
  obtain⟨W3,hW3,bO,aC,iP⟩:=au w2 #[.bool false,.string k,.string ⟨#[]⟩] 71
  have O0:=aA iP 0
  have O1:=aA iP 1
  have O2:=aA iP 2
  have x0:W3.setCell ⟨w2.heap.size,0,none⟩ (.bool false)=W3:=aK iP (j:=0) rfl
  have x1:W3.setCell ⟨w2.heap.size,1,none⟩ (.string k)=W3:=aK iP (j:=1) rfl
  have x2:W3.setCell ⟨w2.heap.size,2,none⟩ (.string ⟨#[]⟩)=W3:=aK iP (j:=2) rfl
  have r3:=r2.below aC
  have ma:=(aC.block w.heap.size (by omega)).trans aa9
  have o0:W3.cell? ⟨w2.heap.size,0,none⟩=some (.bool false):=ai iP 0 rfl
  have o1:W3.cell? ⟨w2.heap.size,1,none⟩=some (.string k):=ai iP 1 rfl
  have o2:W3.cell? ⟨w2.heap.size,2,none⟩=some (.string ⟨#[]⟩):=ai iP 2 rfl
  have R0:W3.cell? ⟨w.heap.size,0,none⟩=some (.bool false):=ai ma 0 rfl
  have R1:W3.cell? ⟨w.heap.size,1,none⟩=some (.string ⟨#[]⟩):=ai ma 1 rfl
  have R2:W3.cell? ⟨w.heap.size,2,none⟩=some (.string ⟨#[]⟩):=ai ma 2 rfl
  have F0:=aA ma 0
  have F1:=aA ma 1
  have F2:=aA ma 2
  obtain⟨V',hV',fI,dO⟩:=aq9 ma (.bool false) (.string k) (.string ⟨#[]⟩)
  have k0:V'.cell? ⟨w.heap.size,0,none⟩=some (.bool false):=ai fI 0 rfl
  have k1:V'.cell? ⟨w.heap.size,1,none⟩=some (.string k):=ai fI 1 rfl
  have k2:V'.cell? ⟨w.heap.size,2,none⟩=some (.string ⟨#[]⟩):=ai fI 2 rfl
  have eQ:w.grownBy V' (some g):=grown_fresh (aH (aH grA iU) (kK aC _)) dO (Nat.le_refl _)
  have rV:fJ w0 V' g vb bs a2 jB:=r3.grown dO hw0 (by omega)
  have hOS:Bm.OS bs a bad ah.data.toList ⟨false,k,⟨#[]⟩⟩ a2 jB:=Bm.awX HBY.out S1.out ks rfl rfl rfl
  have hkl:=Bm.amz ks (by rw[←Lib.size_eq];exact hah)
  rw[←Lib.size_eq]at hkl
  have RV:=hide rV
  have OS:=hide hOS
  clear ks r1 r2 r3 aei aa9 ma iP fI dO rV hOS grA iU aC
  go_wp2
  refine bodyPost_ret (v:=.agg #[.bool false,.string k,.string ⟨#[]⟩]) (by simp[results,results330,go_sem,k0,k1,k2]) rfl ?_
  exact⟨⟨false,k,⟨#[]⟩⟩,a2,jB,rfl,RV.out,eQ,OS.out,hkl,by simp[ByteArray.size]⟩
 ·have S1:=hide s1
  clear s1
  go_wp2_with fail
  refine(ae5 w0 w1 g vb bs a1 iB ah r1 hl hah).mono ?_
  rintro E w2 ⟨k,a2,jB,rfl,r2,iU,ks⟩
  have dA:=iU.size
  have aa9:=(iU.block w.heap.size (by omega) (by simp;omega)).trans aei
  obtain⟨W3,hW3,bO,aC,iP⟩:=au w2 #[.bool true,.string k,.string ⟨#[]⟩] 71
  have O0:=aA iP 0
  have O1:=aA iP 1
  have O2:=aA iP 2
  have x0:W3.setCell ⟨w2.heap.size,0,none⟩ (.bool true)=W3:=aK iP (j:=0) rfl
  have x1:W3.setCell ⟨w2.heap.size,1,none⟩ (.string k)=W3:=aK iP (j:=1) rfl
  have x2:W3.setCell ⟨w2.heap.size,2,none⟩ (.string ⟨#[]⟩)=W3:=aK iP (j:=2) rfl
  have r3:=r2.below aC
  have ma:=(aC.block w.heap.size (by omega)).trans aa9
  have o0:W3.cell? ⟨w2.heap.size,0,none⟩=some (.bool true):=ai iP 0 rfl
  have o1:W3.cell? ⟨w2.heap.size,1,none⟩=some (.string k):=ai iP 1 rfl
  have o2:W3.cell? ⟨w2.heap.size,2,none⟩=some (.string ⟨#[]⟩):=ai iP 2 rfl
  have eQ:w.grownBy W3 (some g):=aH (aH grA iU) (kK aC _)
  have hkl:=Bm.amz ks (by rw[←Lib.size_eq];exact hah)
  rw[←Lib.size_eq]at hkl
  have KS:=hide ks
  clear ks r1 r2 grA iU aC aei aa9
  go_wp2_with fail
  refine(qK w0 W3 g vb bs a2 jB 32 r3 hl (by omega)).mono ?_
  rintro E w4 ⟨n,a4,jD,rfl,r4,qM,s4⟩
  have hn:=Bm.uG s4
  have iK:=qM.size
  have arU:=(qM.block w.heap.size (by omega) (by simp;omega)).trans ma
  have asA:=(qM.block w2.heap.size (by omega) (by simp;omega)).trans iP
  have S4:=hide s4
  clear s4
  go_wp2_with fail
  refine(adl w0 w4 g vb bs a4 jD n r4 hl (by omega)).mono ?_
  rintro E w5 ⟨s,ys,a5,fK,rfl,hs,r5,gr5,s5⟩
  have mO:=gr5.size
  have arK:=(gr5.block w.heap.size (by omega) (by simp;omega)).trans arU
  have aev:=(gr5.block w2.heap.size (by omega) (by simp;omega)).trans asA
  have p2:w5.cell? ⟨w2.heap.size,2,none⟩=some (.string ⟨#[]⟩):=ai aev 2 rfl
  have q2:=aA aev 2
  obtain⟨W6,hW6⟩:∃W6,w5.setCell ⟨w2.heap.size,2,none⟩ (.string s)=W6:=⟨_,rfl⟩
  have aew:W6.heap[w2.heap.size]? =some (.cells #[.bool true,.string k,.string s] 71 (0,0)):=by rw[←hW6];exact aF aev 2 (.string s)
  have gr6:w5.grownBy W6 (some w2.heap.size):=by rw[←hW6];exact ax w5 ⟨w2.heap.size,2,none⟩ _
  have sP:=gr6.size
  have rG:=(gr6.block w.heap.size (by omega) (by simp;omega)).trans arK
  have r6:=r5.grown gr6 (by omega) (by omega)
  have o0:W6.cell? ⟨w2.heap.size,0,none⟩=some (.bool true):=ai aew 0 rfl
  have o1:W6.cell? ⟨w2.heap.size,1,none⟩=some (.string k):=ai aew 1 rfl
  have o2:W6.cell? ⟨w2.heap.size,2,none⟩=some (.string s):=ai aew 2 rfl
  have R0:W6.cell? ⟨w.heap.size,0,none⟩=some (.bool false):=ai rG 0 rfl
  have R1:W6.cell? ⟨w.heap.size,1,none⟩=some (.string ⟨#[]⟩):=ai rG 1 rfl
  have R2:W6.cell? ⟨w.heap.size,2,none⟩=some (.string ⟨#[]⟩):=ai rG 2 rfl
  have F0:=aA rG 0
  have F1:=aA rG 1
  have F2:=aA rG 2
  obtain⟨V',hV',fI,dO⟩:=aq9 rG (.bool true) (.string k) (.string s)
  have k0:V'.cell? ⟨w.heap.size,0,none⟩=some (.bool true):=ai fI 0 rfl
  have k1:V'.cell? ⟨w.heap.size,1,none⟩=some (.string k):=ai fI 1 rfl
  have k2:V'.cell? ⟨w.heap.size,2,none⟩=some (.string s):=ai fI 2 rfl
  have grC:w.grownBy V' (some g):=grown_fresh (grown_fresh (aH (aH eQ qM) gr5) gr6 (by omega)) dO (Nat.le_refl _)
  have rV:fJ w0 V' g vb bs a5 fK:=r6.grown dO hw0 (by omega)
  have hOS:Bm.OS bs a bad ah.data.toList ⟨true,k,s⟩ a5 fK:=Bm.avh HBY.out S1.out KS.out rfl rfl hs S4.out s5
  have hsl:s.size≤32:=by
   have:=Bm.aeu s5
   have e:=congrArg List.length hs
   rw[Om.jX,←Lib.size_eq]at e
   omega
  have RV:=hide rV
  have OS:=hide hOS
  clear hs s5 r4 r5 r6 rV hOS ma arU arK rG iP asA aev aew fI dO eQ qM gr5 gr6
  go_wp2
  refine bodyPost_ret (v:=.agg #[.bool true,.string k,.string s]) (by simp[results,results330,go_sem,k0,k1,k2]) rfl ?_
  exact⟨⟨true,k,s⟩,a5,fK,rfl,RV.out,grC,OS.out,hkl,hsl⟩
def qF (l:List Bm.Ov):Prop:=∀o∈l,o.k.size≤16∧o.v.size≤32
theorem qF.fit {l:List Bm.Ov}(h:qF l):dZ l:=fun o ho=>by have:=h o ho;omega
theorem qF.snoc {l:List Bm.Ov}{o:Bm.Ov}(h:qF l)(h1:o.k.size≤16)(h2:o.v.size≤32):qF (l++[o]):=by
 intro x hx
 rcases List.mem_append.1 hx with hx|hx
 ·exact h x hx
 ·rw[List.mem_singleton.1 hx];exact⟨h1,h2⟩
theorem vG {l:List Bm.Ov}(h:Bm.cO l=0):qF l:=by
 intro o ho
 have:=Om.gU ((Bm.dM h).2.2 o ho)
 simp only[Bm.Ov.kl,Bm.Ov.vl,←Lib.size_eq]at this
 omega
theorem alM (vb:Value)(bs:List Int)(w:World)(hb:Is .u8 w vb bs)(hl:bs.length≤140737488355328):
  Calls prog 304 #[vb] w fun E w'=>∃(vl:Value) (l:List Bm.Ov) (n e:Int),E=.returned (.tuple #[vl,.int .i64 n,.int .i64 e])∧aT 71 w.heap.size w' vl l∧Bm.aov bs l n e∧Below w.heap.size w w':=by
 obtain⟨i0,hi,hz0,hz1,hz2⟩:=info_parts Tryz.wY
 obtain⟨ao,cap,rfl,_,_⟩:=hb.shape
 obtain⟨W1,hW1,aV,aj,qP⟩:=au w #[.slice ao bs.length cap,.int .i64 0,.int .i64 0] 352
 have r1:fJ w W1 w.heap.size (.slice ao bs.length cap) bs 0 false:=⟨hb,by omega,aj,qP,by omega⟩
 have c0:W1.cell? ⟨w.heap.size,0,none⟩=some (.slice ao bs.length cap):=ai qP 0 rfl
 have c1:W1.cell? ⟨w.heap.size,1,none⟩=some (.int .i64 0):=ai qP 1 rfl
 have c2:W1.cell? ⟨w.heap.size,2,none⟩=some (.int .i64 0):=ai qP 2 rfl
 have f0:=aA qP 0
 have f1:=aA qP 1
 have f2:=aA qP 2
 have x0:W1.setCell ⟨w.heap.size,0,none⟩ (.slice ao bs.length cap)=W1:=aK qP (j:=0) rfl
 have x1:W1.setCell ⟨w.heap.size,1,none⟩ (.int .i64 0)=W1:=aK qP (j:=1) rfl
 have x2:W1.setCell ⟨w.heap.size,2,none⟩ (.int .i64 0)=W1:=aK qP (j:=2) rfl
 clear qP
 go_enter func304,ntmps304
 go_wp2_with fail
 refine(qK w W1 w.heap.size _ bs 0 false 8 r1 hl (by omega)).mono ?_
 rintro E w2 ⟨c,a2,jB,rfl,r2,iU,s2⟩
 have hc8:=Bm.uG s2
 have dA:=iU.size
 have LS0:=hide (Bm.art s2)
 clear s2 r1
 go_wp2_with (at_make;refine wpList_make_own _ rfl _ _ 33 rfl (w.heap.size+1) 71 i0 (.agg #[.bool false,.string ⟨#[]⟩,.string ⟨#[]⟩]) 3 underlying33 hi hz0 hz1 _ _ _ c rfl rfl (by omega) ?b2 ?b3 (by omega) ?_)
 case b2=>rw[hz2];omega
 case b3=>unfold maxLen;omega
 intro w3 hown3 hgrow3
 have aC:Below w2.heap.size w2 w3:=(Below.refl _ _).grown hgrow3 (Nat.le_refl _) (by simp)
 have bK:aT 71 (w.heap.size+1) w3 (.slice (some ⟨w2.heap.size,0,none⟩) 0 c) []:=hown3
 have r3:=r2.below aC
 have bO:=aC.size
 clear r2 aC hown3 hgrow3 iU c0 c1 c2 f0 f1 f2 x0 x1 x2 hW1 aj
 go_wp2
 go_loopw [2,7,15] (fun lv av i wr=>∃(k:Nat) (l:List Bm.Ov) (ah:ByteArray) (a:Nat) (bad:Bool),k≤c∧i=.int .i64 k∧av=.string ah∧ah.size≤16∧l.length=k∧Hid (qF l)∧aT 71 (w.heap.size+1) wr lv l∧fJ w wr w.heap.size (.slice ao bs.length cap) bs a bad∧Hid (Bm.LS bs c l a bad ah.data.toList)) (fun _ _ i _=>c-(intOf i).toNat)
 case atStart=>exact⟨0,[],⟨#[]⟩,a2,jB,by omega,rfl,rfl,by simp[ByteArray.size],rfl,hide (fun o ho=>by simp at ho),bK,r3,LS0⟩
 case round=>
  obtain⟨k,l,ah,a,bad,hk,rfl,rfl,hah,hlk,HS,own,r,L⟩:=hrel
  have hgl:=r.lt
  by_cases hlt:k<c
  ·have hlt':(k:Int)<c:=by omega
   go_wp2_with fail
   refine(at6 w wr w.heap.size _ bs a bad ah r hl hah).mono ?_
   rintro E w4 ⟨o,a4,jD,rfl,r4,qM,os4,hok,hov⟩
   unfold xP
   have iK:=qM.size
   have bz:=own.kept qM (by
    rcases hv:Value.ownBlock _ with _|b
    ·exact .inl rfl
    ·refine .inr fun e=>?_
     have:=own.block b hv
     simp at e
     omega)
   have ass:=bz.block
   have L4:=hide (Bm.ati L.out (by omega) os4)
   have HS4:=hide (HS.out.snoc hok hov)
   obtain⟨w5,iw,mO,aS,qA⟩:=au w4 #[.bool o.p,.string o.k,.string o.v] 71
   have p0:w5.cell? ⟨w4.heap.size,0,none⟩=some (.bool o.p):=ai qA 0 rfl
   have p1:w5.cell? ⟨w4.heap.size,1,none⟩=some (.string o.k):=ai qA 1 rfl
   have p2:w5.cell? ⟨w4.heap.size,2,none⟩=some (.string o.v):=ai qA 2 rfl
   have q0:=aA qA 0
   have q1:=aA qA 1
   have q2:=aA qA 2
   have x0:w5.setCell ⟨w4.heap.size,0,none⟩ (.bool o.p)=w5:=aK qA (j:=0) rfl
   have x1:w5.setCell ⟨w4.heap.size,1,none⟩ (.string o.k)=w5:=aK qA (j:=1) rfl
   have x2:w5.setCell ⟨w4.heap.size,2,none⟩ (.string o.v)=w5:=aK qA (j:=2) rfl
   have dx:=bz.below aS
   have r5:=r4.below aS
   obtain⟨w6,jY,sP,eH,eu⟩:=qO 71 w5 #[.bool o.p,.string o.k,.string o.v] 1 [o] rfl rfl (by simp[maxLen])
   rw[mO]at eu
   have jI:=dx.below eH
   have r6:=r5.below eH
   have acG:=(eH.block w4.heap.size (by omega)).trans qA
   have B6:=hide acG
   have R6:=hide r6
   clear os4 own bz dx r r4 r5 r6 qA acG aS eH qM L HS
   go_wp2_with (at_builtin;refine kT rfl (.tmp 19) (.tmp 21) 33 rfl 71 (w.heap.size+1) underlying33 Tryz.wY _ l rfl jI _ [o] rfl eu.is (by simp;omega) (by omega) ?_)
   intro v8 w8 vJ qm gr8
   have aw7:=(gr8.block w4.heap.size (by omega) (fun e=>by have:=ass _ e.symm;omega)).trans B6.out
   have r8:fJ w w8 w.heap.size (.slice ao bs.length cap) bs a4 jD:=by
    obtain⟨h1,h2,h3,h4,h5⟩:=R6.out
    have hs:=h3.size
    exact⟨h1,h2,h3.trans (qm.mono (by omega)),(qm.block w.heap.size (by omega)).trans h4,h5⟩
   have k1:w8.cell? ⟨w4.heap.size,1,none⟩=some (.string o.k):=ai aw7 1 rfl
   clear aw7 jI eu gr8 qm B6 R6 p0 p1 p2 q0 q1 q2 x0 x1 x2 ass iw jY
   go_wp2
   go_roundw
   case rel=>exact⟨k+1,l++[o],o.k,a4,jD,by omega,by go_num,rfl,hok,by simp[hlk],HS4,vJ,r8,L4⟩
   case measure=>simp[intOf];omega
  ·have hke:k=c:=by omega
   have hlt':¬(k:Int)<c:=by omega
   have gP:Below w.heap.size w wr:=r.2.2.1
   cases bad
   ·have e2:=r.good
    have e1:=r.cell1
    have R:=hide r
    clear r
    by_cases hc:Bm.cO l=0
    ·have HR:=hide (Bm.au3 L.out (by omega) hc)
     have HC:=hide hc
     clear hc L
     go_wp2_with fail
     refine(kN _ l _ own.is HS.out.fit (by omega)).mono ?_
     rintro E w9 ⟨rfl,vF⟩
     rw[HC.out]
     have r9:=R.out.below vF
     have e19:=r9.cell1
     have aqA:=(own.below vF).bn (base':=w.heap.size) (by omega)
     have uY:Below w.heap.size w w9:=gP.trans (vF.mono gP.size)
     clear own r9 vF
     go_wp2_with fail
     go_quiet (fail)
     go_wp2
     refine bodyPost_ret (v:=.tuple #[_,.int .i64 (a:Int),.int .i64 0]) (by simp[results,results304,go_sem];rfl) rfl ?_
     exact⟨_,l,_,_,rfl,aqA.below (below_drewN (Below.refl _ _) nq),HR.out,below_drewN uY nq⟩
    ·have HR:=hide (Bm.alm L.out (fun _=>by omega) (.inr hc))
     obtain⟨cc,hcc⟩:∃cc,Bm.cO l=cc:=⟨_,rfl⟩
     have hcb:(cc !=0)=true:=by rw[←hcc];simpa using hc
     have HC:=hide hcc
     clear hc L hcc
     go_wp2_with fail
     refine(kN _ l _ own.is HS.out.fit (by omega)).mono ?_
     rintro E w9 ⟨rfl,vF⟩
     rw[HC.out]
     have uY:Below w.heap.size w w9:=gP.trans (vF.mono gP.size)
     go_wp2
     refine bodyPost_ret (v:=.tuple #[.slice none 0 0,.int .i64 0,.int .i64 5]) (by simp[results,results304,go_sem]) rfl ?_
     exact⟨_,[],_,_,rfl,aT.nil _ _ _,HR.out,uY⟩
   ·have e2:=r.ai6
    have HR:=hide (Bm.alm L.out (fun h=>by simp at h) (.inl rfl))
    clear L r
    go_wp2
    refine bodyPost_ret (v:=.tuple #[.slice none 0 0,.int .i64 0,.int .i64 5]) (by simp[results,results304,go_sem]) rfl ?_
    exact⟨_,[],_,_,rfl,aT.nil _ _ _,HR.out,gP⟩
def afY (bs:List Int) (e n:Int) (l:List Bm.Ov) (k g:Int):Prop:=
 (g=0∧∃x y:Nat,x≤1048576∧y≤1048576∧Vm.enc x<+:bs∧Vm.enc y<+:bs.drop (Vm.sz x)∧Bm.cO l=0∧Bm.eO l<+:bs.drop (Vm.sz x+Vm.sz y)∧e=x∧n=y∧k=((Vm.sz x+Vm.sz y+(Bm.eO l).length:Nat):Int))∨
 (g=5∧e=0∧n=0∧l=[]∧k=0∧∀e' n' l',Cm.chk e' n' l'=0→Cm.fA e' n' l'≠bs)
theorem agN {bs:List Int}{u i g:Int}(h:aaJ bs 1048576 u i g):
  (g=0∧∃x s:Nat,x≤1048576∧Vm.enc x<+:bs∧Vm.sz x=s∧u=x∧i=s∧s≤bs.length∧s≤10)∨(g=5∧u=0∧i=0∧Cm.aiT bs):=by
 rcases h with⟨hR,_,h2,rfl⟩|⟨rfl,rfl,rfl,x,n,e,hR,hx⟩
 ·have hb:=Vm.kG hR
  rcases hR with⟨x,h3,h4,rfl,rfl,_⟩|⟨_,_,_,h⟩
  ·exact .inl ⟨rfl,x,_,by omega,h4,rfl,rfl,rfl,by omega,by omega⟩
  ·simp at h
 ·refine .inr ⟨rfl,rfl,rfl,fun y hy hp=>?_⟩
  obtain⟨e1,e2,e3⟩:=Vm.qC hR (by omega) hp
  omega
theorem am3 (vb:Value)(bs:List Int)(w:World)(hb:Is .u8 w vb bs)(hl:bs.length≤140737488355328):
  Calls prog 267 #[vb] w fun E w'=>∃(e n k g:Int) (v:Value) (l:List Bm.Ov),E=.returned (.tuple #[cK e n v,.int .i64 k,.int .i64 g])∧aT 71 w.heap.size w' v l∧afY bs e n l k g∧Below w.heap.size w w':=by
 unfold cK
 obtain⟨w1,hw1,aV,aj,hB⟩:=au w #[.int .i64 0,.int .i64 0,.slice none 0 0] 35
 have hb1:=hb.below aj
 obtain⟨u,i,g,hS⟩:=uk bs 1048576
 obtain⟨ao,cap,rfl,_,_⟩:=hb.shape
 obtain⟨Z,hZ,bZ,gZ,⟨a0,a1,a2⟩,⟨f0,f1,f2⟩,⟨z0,z1,z2⟩⟩:=gy hB (.int .i64 0) (.int .i64 0) (.slice none 0 0)
 have sM:=aG aj gZ (Nat.le_refl _) (by omega)
 have HB:=hide hB
 have HS:=hide hS
 clear hB bZ gZ
 go_enter func267,ntmps267
 go_wp2_with fail
 refine(lS _ bs 1048576 u i g _ hb1 (by omega) (by omega) (by omega) HS.out).mono ?_
 rintro E w2 ⟨rfl,rfl⟩
 rcases agN HS.out with⟨rfl,x,s,hx,px,hsx,rfl,rfl,hsl,hs10⟩|⟨rfl,rfl,rfl,hN⟩
 ·obtain⟨vs,hvs,gT⟩:=hb1.jo Tryz.lZ Tryz.nH s hsl
  obtain⟨u,i,g,hS2⟩:=uk (bs.drop s) 1048576
  have HX:Hid (Vm.enc x<+:bs∧Vm.sz x=s):=⟨px,hsx⟩
  have HS2:=hide hS2
  clear px hsx hS2 HS
  go_wp2_with fail
  refine(lS _ _ 1048576 u i g _ gT (by rw[List.length_drop];omega) (by omega) (by omega) HS2.out).mono ?_
  rintro E w2 ⟨rfl,rfl⟩
  rcases agN HS2.out with⟨rfl,y,r,hy,py,hsy,rfl,rfl,hrl,hr10⟩|⟨rfl,rfl,rfl,hN⟩
  ·rw[List.length_drop]at hrl
   obtain⟨vr,hvr,isr⟩:=hb1.jo Tryz.lZ Tryz.nH (s+r) (by omega)
   have HY:Hid (Vm.enc y<+:bs.drop s∧Vm.sz y=r):=⟨py,hsy⟩
   push_cast at hvr
   clear py hsy HS2
   go_wp2_with fail
   refine(alM vr _ _ isr (by rw[List.length_drop];omega)).mono ?_
   rintro E w3 ⟨vl,l,k,e,rfl,oI,hR,aC⟩
   have bO:=aC.size
   have hB3:=(aC.block w.heap.size (by omega)).trans HB.out
   have bq:=aj.trans (aC.mono (by omega))
   obtain⟨px,hsx⟩:=HX.out
   obtain⟨py,hsy⟩:=HY.out
   clear HX HY hZ a0 a1 a2 f0 f1 f2 z0 z1 z2 sM aj aC hb1 gT isr hvs hvr hb
   rcases hR with⟨rfl,hc,hp,rfl⟩|⟨rfl,rfl,rfl,hno⟩
   ·obtain⟨ah,ch,hvl,_,_⟩:=oI.is.shape
    subst hvl
    have hpl:=hp.length_le
    rw[List.length_drop]at hpl
    obtain⟨V,hV,bV,gV,⟨a0,a1,a2⟩,⟨f0,f1,f2⟩,⟨z0,z1,z2⟩⟩:=gy hB3 (.int .i64 x) (.int .i64 y) (.slice ah l.length ch)
    have bg:=aG bq gV (Nat.le_refl _) (by omega)
    have jm:=(oI.nD gV (by omega)).bn (base':=w.heap.size) (by omega)
    have HR:Hid (afY bs x y l ((s+r+(Bm.eO l).length:Nat):Int) 0):=hide (.inl ⟨rfl,x,y,hx,hy,px,by rw[hsx];exact py,hc,by rw[hsx,hsy];exact hp,rfl,rfl,by rw[hsx,hsy]⟩)
    clear px py hsx hsy hc hp bV gV hB3 oI bq
    go_wp2
    refine bodyPost_ret (v:=.tuple #[.agg #[.int .i64 x,.int .i64 y,.slice ah l.length ch],.int .i64 ((s+r+(Bm.eO l).length:Nat):Int),.int .i64 0]) (by simp[results,results267,go_sem,z0,z1,z2]) rfl ?_
    exact⟨_,_,_,_,_,_,rfl,jm,HR.out,bg⟩
   ·obtain⟨V,hV,bV,gV,⟨a0,a1,a2⟩,⟨f0,f1,f2⟩,⟨z0,z1,z2⟩⟩:=gy hB3 (.int .i64 0) (.int .i64 0) (.slice none 0 0)
    have bg:=aG bq gV (Nat.le_refl _) (by omega)
    have HR:Hid (afY bs 0 0 [] 0 5):=hide (.inr ⟨rfl,rfl,rfl,rfl,rfl,Cm.aph px (by rw[hsx];exact py) (by rw[hsx,hsy];exact hno)⟩)
    clear px py hsx hsy hno bV gV hB3 oI bq
    go_wp2
    refine bodyPost_ret (v:=.tuple #[.agg #[.int .i64 0,.int .i64 0,.slice none 0 0],.int .i64 0,.int .i64 5]) (by simp[results,results267,go_sem,z0,z1,z2]) rfl ?_
    exact⟨_,_,_,_,_,_,rfl,aT.nil _ _ _,HR.out,bg⟩
  ·have HR:Hid (afY bs 0 0 [] 0 5):=hide (.inr ⟨rfl,rfl,rfl,rfl,rfl,Cm.amg HX.out.1 (by rw[HX.out.2];exact hN)⟩)
   clear hN HS2 HX
   go_wp2
   refine bodyPost_ret (v:=.tuple #[.agg #[.int .i64 0,.int .i64 0,.slice none 0 0],.int .i64 0,.int .i64 5]) (by simp[results,results267,go_sem,z0,z1,z2]) rfl ?_
   exact⟨_,_,_,_,_,_,rfl,aT.nil _ _ _,HR.out,sM⟩
 ·have HR:Hid (afY bs 0 0 [] 0 5):=hide (.inr ⟨rfl,rfl,rfl,rfl,rfl,Cm.aqd hN⟩)
  clear hN HS
  go_wp2
  refine bodyPost_ret (v:=.tuple #[.agg #[.int .i64 0,.int .i64 0,.slice none 0 0],.int .i64 0,.int .i64 5]) (by simp[results,results267,go_sem,z0,z1,z2]) rfl ?_
  exact⟨_,_,_,_,_,_,rfl,aT.nil _ _ _,HR.out,sM⟩
def ends (l:List Cm.Cv):List Int:=(List.range l.length).map fun i=>((Wl.dE (l.take (i+1))).length:Int)
theorem uI (l:List Cm.Cv):(ends l).length=l.length:=by simp[ends]
theorem aus (l:List Cm.Cv)(i:Nat)(hi:i<l.length):(ends l).getD i 0=(Wl.dE (l.take (i+1))).length:=by
 simp[ends,List.getD_eq_getElem?_getD,hi]
theorem anw (l:List Cm.Cv)(c:Cm.Cv):ends (l++[c])=ends l++[((Wl.dE (l++[c])).length:Int)]:=by
 unfold ends
 rw[List.length_append,List.length_singleton,List.range_succ,List.map_append]
 congr 1
 ·apply List.map_congr_left
  intro i hi
  rw[List.mem_range]at hi
  rw[List.take_append_of_le_length (by omega)]
 ·rw[List.map_singleton,List.take_of_length_le (by simp)]
theorem fM {l:List Cm.Cv}(h:Cm.Good 0 0 l):l.length≤1048576:=by
 rcases List.eq_nil_or_concat l with rfl|⟨r,c,rfl⟩
 ·simp
 ·have hk:(r.concat c)[r.length]? =some c:=by rw[List.concat_eq_append];simp
  obtain⟨h1,h2,_⟩:=Cm.pU (r.concat c) 0 0 r.length c h hk
  have:=Cm.bJ h1
  rw[List.concat_eq_append,List.length_append,List.length_singleton]
  omega
theorem awM {l:List Cm.Cv}(h:Cm.Good 0 0 l):(Wl.dE l).length≤454033408:=by
 have h1:=Wl.adK h
 have h2:=fM h
 omega
theorem aeY {rs:List Cw}{l:List Cm.Cv}(h:Cm.Good 0 0 l)(he:aD rs=l):jH rs∧∀c∈rs,In64 c.e∧In64 c.n∧c.l.length≤8:=by
 have key:∀c∈rs,Cm.chk c.e c.n c.l=0:=by
  intro c hc
  obtain⟨k,hk⟩:=List.getElem?_of_mem hc
  have:l[k]? =some c.c:=by rw[←he,aD,List.getElem?_map,hk];rfl
  exact(Cm.pU l 0 0 k c.c h this).1
 constructor
 ·intro c hc
  obtain⟨_,_,_,_,h5⟩:=Cm.bJ (key c hc)
  have:=(Bm.dM h5).2.1
  exact⟨(vG h5).fit,by omega⟩
 ·intro c hc
  obtain⟨h1,h2,h3,h4,h5⟩:=Cm.bJ (key c hc)
  have:=(Bm.dM h5).2.1
  exact⟨⟨by omega,by omega⟩,⟨by omega,by omega⟩,this⟩
structure Lr (base:Nat) (w:World) (vc ve:Value) (rs:List Cw) (zs:List Int):Prop where
 row:bD 35 base w vc rs
 iH:gu base w rs
 en:Own .i64 3 base w ve zs
structure Lw (base:Nat) (w:World) (l:List Cm.Cv) (vc ve:Value) (rs:List Cw):Prop where
 r:Lr base w vc ve rs (ends l)
 is:aD rs=l
 good:Cm.Good 0 0 l
def LB (vc ve:Value) (rs:List Cw) (g:Nat):Prop:=vc.ownBlock=some g∨ve.ownBlock=some g∨∃c∈rs,c.v.ownBlock=some g
section
variable {base base':Nat} {w w':World} {l:List Cm.Cv} {vc ve:Value} {rs:List Cw} {F G:Nat→Prop}
theorem Lr.nil (base:Nat)(w:World):Lr base w (.slice none 0 0) (.slice none 0 0) [] []:=⟨bD.nil _ _ _,fun c hc=>by simp at hc,Own.nil _ _ _ _⟩
theorem Lw.nil (base:Nat)(w:World):Lw base w [] (.slice none 0 0) (.slice none 0 0) []:=⟨Lr.nil _ _,rfl,trivial⟩
theorem Lr.ty {zs:List Int}(h:Lr base w vc ve rs zs):∀g,LB vc ve rs g→∃cs t,w.heap[g]? =some (.cells cs t (0,0))∧(t=35∨t=3∨t=71):=by
 rintro g (hb|hb|⟨c,hc,hb⟩)
 ·obtain⟨cs,e⟩:=h.row.type hb
  exact⟨_,_,e,.inl rfl⟩
 ·obtain⟨cs,e⟩:=h.en.type hb
  exact⟨_,_,e,.inr (.inl rfl)⟩
 ·obtain⟨cs,e⟩:=(h.iH c hc).type hb
  exact⟨_,_,e,.inr (.inr rfl)⟩
theorem Lr.lt {zs:List Int}(h:Lr base w vc ve rs zs):∀g,LB vc ve rs g→g<w.heap.size:=fun g hg=>by
 obtain⟨cs,t,e,_⟩:=h.ty g hg
 exact ay e
theorem Lr.agree {zs:List Int}(h:Lr base w vc ve rs zs)(ha:∀g,LB vc ve rs g→w'.heap[g]? =w.heap[g]?):Lr base w' vc ve rs zs:=
 ⟨dH h.row fun b hb=>ha b (.inl hb),fun c hc=>dH (h.iH c hc) fun b hb=>ha b (.inr (.inr ⟨c,hc,hb⟩)),h.en.agree fun b hb=>ha b (.inr (.inl hb))⟩
theorem Lr.below {zs:List Int}(h:Lr base w vc ve rs zs)(hb:Below w.heap.size w w'):Lr base w' vc ve rs zs:=h.agree fun g hg=>hb.block g (h.lt g hg)
theorem Lr.ne {zs:List Int}(h:Lr base w vc ve rs zs){b:Nat}{cs:Array Value}{t:TypeId}{fr:Nat×Nat}(hb:w.heap[b]? =some (.cells cs t fr))(h1:t≠35)(h2:t≠3)(h3:t≠71):¬LB vc ve rs b:=by
 intro hg
 obtain⟨cs',t',e,ht⟩:=h.ty b hg
 rw[hb]at e
 simp only[Option.some.injEq,Obj.cells.injEq]at e
 obtain⟨_,e2,_⟩:=e
 subst e2
 rcases ht with e|e|e
 ·exact h1 e
 ·exact h2 e
 ·exact h3 e
theorem Lw.ty (h:Lw base w l vc ve rs):∀g,LB vc ve rs g→∃cs t,w.heap[g]? =some (.cells cs t (0,0))∧(t=35∨t=3∨t=71):=h.r.ty
theorem Lw.lt (h:Lw base w l vc ve rs):∀g,LB vc ve rs g→g<w.heap.size:=h.r.lt
theorem Lw.agree (h:Lw base w l vc ve rs)(ha:∀g,LB vc ve rs g→w'.heap[g]? =w.heap[g]?):Lw base w' l vc ve rs:=⟨h.r.agree ha,h.is,h.good⟩
theorem Lw.below (h:Lw base w l vc ve rs)(hb:Below w.heap.size w w'):Lw base w' l vc ve rs:=⟨h.r.below hb,h.is,h.good⟩
theorem Lw.len (h:Lw base w l vc ve rs):rs.length=l.length:=by rw[←h.is,aD,List.length_map]
structure zJ (p q:Nat) (w:World) (l:List Cm.Cv) (bk:Bool) (vc ve:Value) (rs:List Cw):Prop where
 blk:w.heap[p]? =some (.cells #[.pointer (some ⟨q,0,none⟩),.bool bk,vc,ve] 196 (0,0))
 log:Lw 0 w l vc ve rs
def Wk (p q:Nat) (G:Nat→Prop) (w:World) (l:List Cm.Cv) (bk:Bool):Prop:=∃vc ve rs,zJ p q w l bk vc ve rs∧G=fun g=>g=p∨LB vc ve rs g
theorem zJ.ty {p q:Nat}{bk:Bool}(h:zJ p q w l bk vc ve rs):∀g,g=p∨LB vc ve rs g→∃cs t,w.heap[g]? =some (.cells cs t (0,0))∧(t=196∨t=35∨t=3∨t=71):=by
 rintro g (rfl|hg)
 ·exact⟨_,_,h.blk,.inl rfl⟩
 ·obtain⟨cs,t,e,ht⟩:=h.log.ty g hg
  exact⟨cs,t,e,.inr ht⟩
theorem Wk.ty {p q:Nat}{bk:Bool}(h:Wk p q G w l bk):∀g,G g→∃cs t,w.heap[g]? =some (.cells cs t (0,0))∧(t=196∨t=35∨t=3∨t=71):=by
 obtain⟨vc,ve,rs,h,rfl⟩:=h
 exact h.ty
theorem Wk.lt {p q:Nat}{bk:Bool}(h:Wk p q G w l bk):∀g,G g→g<w.heap.size:=fun g hg=>by
 obtain⟨cs,t,e,_⟩:=h.ty g hg
 exact ay e
theorem Wk.agree {p q:Nat}{bk:Bool}(h:Wk p q G w l bk)(ha:∀g,G g→w'.heap[g]? =w.heap[g]?):Wk p q G w' l bk:=by
 obtain⟨vc,ve,rs,h,rfl⟩:=h
 exact⟨vc,ve,rs,⟨(ha p (.inl rfl)).trans h.blk,h.log.agree fun g hg=>ha g (.inr hg)⟩,rfl⟩
theorem Wk.below {p q:Nat}{bk:Bool}(h:Wk p q G w l bk)(hb:Below w.heap.size w w'):Wk p q G w' l bk:=h.agree fun g hg=>hb.block g (h.lt g hg)
theorem Wk.out {p q:Nat}{bk:Bool}(h:Wk p q G w l bk)(ho:Out F w w')(hd:∀g,G g→¬F g):Wk p q G w' l bk:=h.agree fun g hg=>ho.block g (h.lt g hg) (hd g hg)
theorem Wk.good {p q:Nat}{bk:Bool}(h:Wk p q G w l bk):Cm.Good 0 0 l:=by
 obtain⟨vc,ve,rs,h,rfl⟩:=h
 exact h.log.good
theorem yU {p q q':Nat}{bk:Bool}{st:Dm.Ds}(h:Wk p q G w l bk)(k:Pk q' F w st):∀g,G g→¬F g:=by
 intro g hg hf
 obtain⟨cs,t,e,ht⟩:=h.ty g hg
 obtain⟨cs',t',fr,e',ht'⟩:=k.ty g hf
 rw[e]at e'
 simp only[Option.some.injEq,Obj.cells.injEq]at e'
 obtain⟨_,e2,_⟩:=e'
 subst e2
 rcases ht with rfl|rfl|rfl|rfl<;>rcases ht' with e|e|e<;>exact absurd e (by decide)
end
def WW (p q:Nat) (F:Nat→Prop) (w:World) (s:Wl.Ws):Prop:=∃F1 G1,Pk q F1 w s.d∧Wk p q G1 w s.l s.bk∧F=fun g=>F1 g∨G1 g
def iT (p q:Nat) (F:Nat→Prop) (w w':World) (s':Wl.Ws):Prop:=∃F',WW p q F' w' s'∧Out F w w'∧∀g,F' g→F g∨w.heap.size≤g
section
variable {p q:Nat} {F G:Nat→Prop} {w w' w1 w2:World} {s s':Wl.Ws} {st':Dm.Ds}
theorem WW.lt (h:WW p q F w s):∀g,F g→g<w.heap.size:=by
 obtain⟨F1,G1,h1,h2,rfl⟩:=h
 rintro g (hg|hg)
 ·exact h1.lt g hg
 ·exact h2.lt g hg
theorem WW.agree (h:WW p q F w s)(ha:∀g,F g→w'.heap[g]? =w.heap[g]?):WW p q F w' s:=by
 obtain⟨F1,G1,h1,h2,rfl⟩:=h
 exact⟨F1,G1,h1.agree fun g hg=>ha g (.inl hg),h2.agree fun g hg=>ha g (.inr hg),rfl⟩
theorem WW.below (h:WW p q F w s)(hb:Below w.heap.size w w'):WW p q F w' s:=h.agree fun g hg=>hb.block g (h.lt g hg)
theorem WW.good (h:WW p q F w s):Cm.Good 0 0 s.l:=by
 obtain⟨F1,G1,h1,h2,rfl⟩:=h
 exact h2.good
theorem iT.trans {F1:Nat→Prop}(ho:Out F w w1)(hs:∀g,F1 g→F g∨w.heap.size≤g)(k:iT p q F1 w1 w2 s'):iT p q F w w2 s':=by
 obtain⟨F2,h1,h2,h3⟩:=k
 refine⟨F2,h1,ho.trans h2 hs,fun g hg=>?_⟩
 rcases h3 g hg with h|h
 ·exact hs g h
 ·exact .inr (Nat.le_trans ho.size h)
theorem iT.pre (hb:Below w.heap.size w w1)(h:iT p q F w1 w2 s'):iT p q F w w2 s':=h.trans (Out.of_below hb) fun g hg=>.inl hg
theorem WW.disk {F1 G1:Nat→Prop}{l:List Cm.Cv}{bk:Bool}(h1:Pk q F1 w s.d)(h2:Wk p q G1 w l bk)(k:bN q F1 w w' st'):
  ∃F2,Pk q F2 w' st'∧Wk p q G1 w' l bk∧Out F1 w w'∧∀g,F2 g→F1 g∨w.heap.size≤g:=by
 obtain⟨F2,k1,k2,k3⟩:=k
 exact⟨F2,k1,h2.out k2 (yU h2 h1),k2,k3⟩
end
def acJ (e n:Int) (l:List Bm.Ov):Prop:=In64 e∧In64 n∧dZ l∧l.length≤8
theorem ab6:acJ 0 0 []:=⟨by simp[In64],by simp[In64],fun o ho=>by simp at ho,by simp⟩
theorem auA {e n:Int}{l:List Bm.Ov}(h:Cm.chk e n l=0):acJ e n l:=by
 obtain⟨h1,h2,h3,h4,h5⟩:=Cm.bJ h
 exact⟨⟨by omega,by omega⟩,⟨by omega,by omega⟩,(vG h5).fit,(Bm.dM h5).2.1⟩
structure lh (b:Nat) (w:World) (vc:Value) (cs:List Cw):Prop where
 c:bD 35 b w vc cs
 o:gu b w cs
 i:∀c∈cs,In64 c.e∧In64 c.n
 ap:qE cs
 f:jH cs
theorem lh.nil (b:Nat)(w:World):lh b w (.slice none 0 0) []:=⟨bD.nil _ _ _,fun c hc=>by simp at hc,fun c hc=>by simp at hc,fun i j c d _ hc=>by simp at hc,fun c hc=>by simp at hc⟩
theorem lh.below {b:Nat}{w w':World}{vc:Value}{cs:List Cw}(h:lh b w vc cs)(hb:Below w.heap.size w w'):lh b w' vc cs:=⟨h.c.below hb,h.o.below hb,h.i,h.ap,h.f⟩
theorem lh.out {b:Nat}{w w':World}{vc:Value}{cs:List Cw}{F:Nat→Prop}(h:lh b w vc cs)(ho:Out F w w')(hF:∀i,F i→i<b):lh b w' vc cs:=by
 have k:∀(v:Value),(∀g,v.ownBlock=some g→b≤g∧g<w.heap.size)→∀g,v.ownBlock=some g→w'.heap[g]? =w.heap[g]? :=fun v hv g hg=>ho.block g (hv g hg).2 fun hf=>by have:=hF g hf;have:=(hv g hg).1;omega
 exact⟨dH h.c (k _ (World.ownsRow.lt h.c)),fun c hc=>dH (h.o c hc) (k _ (World.ownsRow.lt (h.o c hc))),h.i,h.ap,h.f⟩
theorem lh.snoc {b:Nat}{w z4:World}{vc v4:Value}{cs:List Cw}{e n:Int}{vl:Value}{l:List Bm.Ov}{N:Nat}(h:lh b w vc cs)(kp:bH 35 w z4)(hc:bD 35 b z4 v4 (cs++[⟨e,n,vl,l⟩]))(ho:aT 71 N w vl l)(hN:b≤N)(hlt:∀d∈cs,∀g,d.v.ownBlock=some g→g<N)(hf:acJ e n l):lh b z4 v4 (cs++[⟨e,n,vl,l⟩]):=by
 refine⟨hc,(h.o.lu kp).snoc ((ho.bn hN).lu kp (by decide)),fun c hcc=>?_,aal h.ap hlt (fun g hg=>(World.ownsRow.lt ho g hg).1),fun c hcc=>?_⟩
 ·rcases List.mem_append.1 hcc with hcc|hcc
  ·exact h.i c hcc
  ·rw[List.mem_singleton.1 hcc];exact⟨hf.1,hf.2.1⟩
 ·rcases List.mem_append.1 hcc with hcc|hcc
  ·exact h.f c hcc
  ·rw[List.mem_singleton.1 hcc];exact⟨hf.2.2.1,by have:=hf.2.2.2;show l.length*40≤_;omega⟩
structure Sw where
 e:Int
 f:Int
 v:Value
 rs:List Cw
theorem lD (b o:Nat)(w:World)(vc:Value)(rs:List Cw)(hc:w.cell? ⟨b,o,none⟩=some vc)(h:eD w vc rs):
  Calls prog 139 #[.pointer (some ⟨b,o,none⟩)] w fun E w'=>E=.returned (.int .i64 rs.length)∧w=w':=by
 obtain⟨ao,cap,rfl,_,_⟩:=h.shape
 clear h
 go_enter func139,ntmps139
 go_wp2
 go_ret
 exact⟨rfl,rfl⟩
theorem ahO {l:List Cm.Cv}{k:Nat}{c:Cm.Cv}(hk:l[k]? =some c)(hl:l.length=k+1)(e:Int):Cm.lastE e l=c.e:=by
 rcases List.eq_nil_or_concat l with rfl|⟨r,d,rfl⟩
 ·simp at hk
 ·rw[List.concat_eq_append]at hk hl⊢
  rw[List.length_append,List.length_singleton]at hl
  obtain rfl:r.length=k:=by omega
  rw[(Cm.dU r d e 0).1]
  simp at hk
  rw[hk]
theorem aby (b o:Nat)(w:World)(vc:Value)(rs:List Cw)(hc:w.cell? ⟨b,o,none⟩=some vc)(h:eD w vc rs)(hl:rs.length≤1048576):
  Calls prog 182 #[.pointer (some ⟨b,o,none⟩)] w fun E w'=>E=.returned (.int .i64 (Cm.lastE 0 (aD rs)))∧∃m,w'=w.drewN m:=by
 have HE:=hide (lD b o w vc rs hc h)
 by_cases h0:rs.length=0
 ·have hr:rs=[]:=List.eq_nil_of_length_eq_zero h0
  subst hr
  clear h
  go_enter func182,ntmps182
  go_wp2_with fail
  refine HE.out.mono ?_
  rintro E w1 ⟨rfl,rfl⟩
  go_wp2
  go_ret
  exact⟨rfl,0,rfl⟩
 ·obtain⟨k,hk⟩:∃k,rs.length=k+1:=⟨rs.length-1,by omega⟩
  have HEq:Hid (∀n,Calls prog 139 #[.pointer (some ⟨b,o,none⟩)] (w.drewN n) fun E w'=>E=.returned (.int .i64 rs.length)∧∃m,w'=(w.drewN n).drewN m):=hide fun n=>
   (lD b o (w.drewN n) vc rs hc (h.below (below_drewN (Below.refl _ _) n))).mono fun E w' h=>⟨h.1,0,by rw[←h.2];rfl⟩
  obtain⟨g,off,cap,rfl,_,_,_,hcell⟩:=h.full (by omega)
  obtain⟨c,hck⟩:∃c,rs[k]? =some c:=⟨rs[k]'(by omega),by rw[List.getElem?_eq_getElem]⟩
  obtain⟨c0,_,_⟩:=hcell k c hck
  have hL:Cm.lastE 0 (aD rs)=c.e:=ahO (k:=k) (c:=c.c) (by unfold aD;rw[List.getElem?_map,hck];rfl) (by unfold aD;rw[List.length_map];exact hk) 0
  rw[hL]
  rw[hk]at HE HEq hc
  have hne:(((k+1:Nat):Int)==0)=false:=by simp;omega
  have hw:IntKind.i64.wrap (((k+1:Nat):Int)-1)=(k:Int):=by rw[aQ _ (by omega) (by omega)];omega
  have hk1:(k:Int)<((k+1:Nat):Int):=by omega
  clear h hcell hck hL
  go_enter func182,ntmps182
  go_wp2_with fail
  refine HE.out.mono ?_
  rintro E w1 ⟨rfl,rfl⟩
  go_wp2
  go_quiet ((go_at_call 139;refine Calls.quiet_of (HEq.out _)))
  go_wp2
  go_ret
  exact⟨rfl,_,rfl⟩
theorem abG (b o:Nat)(w:World)(ve:Value)(l:List Cm.Cv)(n:Nat)(hn:n≤l.length)(hl:l.length≤1048576)(hc:w.cell? ⟨b,o+1,none⟩=some ve)(h:Is .i64 w ve (ends l)):
  Calls prog 294 #[.pointer (some ⟨b,o,none⟩),.int .i64 n] w fun E w'=>E=.returned (.int .i64 (Wl.dE (l.take n)).length)∧w=w':=by
 by_cases h0:n=0
 ·subst h0
  clear h
  go_enter func294,ntmps294
  go_wp2
  go_ret
  exact⟨rfl,rfl⟩
 ·obtain⟨k,rfl⟩:∃k,n=k+1:=⟨n-1,by omega⟩
  obtain⟨g,off,cap,rfl,_,_,_,hcell⟩:=h.full (by rw[uI];omega)
  have c0:=hcell k (by rw[uI];omega)
  rw[aus l k (by omega)]at c0
  rw[uI]at hc
  have hne:(((k+1:Nat):Int)==0)=false:=by simp;omega
  have hw:IntKind.i64.wrap (((k+1:Nat):Int)-1)=(k:Int):=by rw[aQ _ (by omega) (by omega)];omega
  have hk1:(k:Int)<(l.length:Int):=by omega
  generalize ((Wl.dE (List.take (k+1) l)).length:Int)=z at*
  clear h hcell
  go_enter func294,ntmps294
  go_wp2
  go_ret
  exact⟨rfl,rfl⟩
def tk (l:List Cm.Cv) (c:Cm.Cv):Bool:=decide (Cm.chk c.e c.n c.l=0∧¬(c.n-1≠l.length∨c.e<Cm.lastE 0 l))
theorem axj (l:List Cm.Cv)(c:Cm.Cv):tk l c=(((Cm.fol (Cm.lastE 0 l) l.length 0 [c]).1==0)&&((Cm.fol (Cm.lastE 0 l) l.length 0 [c]).2==0)):=by
 unfold tk
 by_cases h1:Cm.chk c.e c.n c.l=0
 ·by_cases h2:c.n-1≠l.length∨c.e<Cm.lastE 0 l
  ·rw[Cm.yY h1 h2,decide_eq_false (fun h=>h.2 h2)]
   rfl
  ·rw[Cm.aaU h1 h2,decide_eq_true ⟨h1,h2⟩]
   rfl
 ·rw[Cm.yK h1,decide_eq_false (fun h=>h1 h.1)]
  simp[h1]
theorem as6 {l:List Cm.Cv}(h:Cm.Good 0 0 l)(c:Cm.Cv):tk l c=true↔Cm.Good 0 0 (l++[c]):=by
 unfold tk
 rw[decide_eq_true_iff,Wl.nU h]
theorem Tryz.aAG (a b c d:Int)(w:World):(binOp .eql 31 (.agg #[.int .i64 a,.int .i64 b]) (.agg #[.int .i64 c,.int .i64 d])).run prog w=.ok (.bool ((a==c)&&(b==d))) w:=by
 rw[run_eql_struct,run_equalIn_agg w 9999 31 _ _ (by kernel_rfl) (by kernel_rfl)]
 unfold Program.fieldsOf
 rw[underlying31]
 simp[Op.eqFields,go_sem,underlying29,underlying3]
 by_cases h1:a=c<;>by_cases h2:b=d<;>simp[h1,h2]
theorem oC (p q:Nat)(w:World)(cs:Array Value)(u1 u2 u3:Value)(hB:w.heap[p]? =some (.cells #[.pointer (some ⟨q,0,none⟩),u1,u2,u3] 196 (0,0))):
  Calls prog 138 #[.pointer (some ⟨p,0,none⟩)] w fun E w'=>E=.returned (.bool true)∧w=w':=by
 have c0:=ai hB 0 rfl
 clear hB
 go_enter func138,ntmps138
 go_wp2
 go_ret
 exact⟨rfl,rfl⟩
end Go.Proofs.YtlmkaljjocflmaaGreatDoor
namespace Go.Proofs.YtlmkaljjocflmaaGreatDoor
def Rdl (bs:List Int) (l:List Cm.Cv):Prop:=Cm.Good 0 0 l∧Wl.dE l<+:bs
end Go.Proofs.YtlmkaljjocflmaaGreatDoor
