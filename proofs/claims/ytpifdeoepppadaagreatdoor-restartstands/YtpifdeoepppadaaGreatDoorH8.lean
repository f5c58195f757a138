/- Texts of one layer, one behind the other. -/
import Derived.Test.YtpifdeoepppadaaGreatDoorG9
import Derived.Test.YtpifdeoepppadaaGreatDoorG12
import Derived.Test.YtpifdeoepppadaaGreatDoorG7
import Derived.Test.YtpifdeoepppadaaGreatDoorG10
import Derived.Test.YtpifdeoepppadaaGreatDoorG1
import Derived.Test.YtpifdeoepppadaaGreatDoorG6
import Derived.Test.YtpifdeoepppadaaGreatDoorG11
import Derived.Test.YtpifdeoepppadaaGreatDoorH2
import Derived.Test.YtpifdeoepppadaaGreatDoorH10
set_option maxRecDepth 100000
set_option maxHeartbeats 8000000
namespace Go.Proofs.YtpifdeoepppadaaGreatDoor
open Go.RowKit
set_option linter.unusedVariables false
theorem fF.one {e n:Int}{v:Value}{o:List Bm.Ov}(hf:fG o)(hl:o.length*40≤140737488351232):fF [⟨e,n,v,o⟩]:=fun c hc=>by rw[List.mem_singleton.1 hc];exact⟨hf,hl⟩
theorem atD {w:World}{a:Nat}{e n:Int}{v:Value}{o:List Bm.Ov}{t:TypeId}(h:w.heap[a]? =some (.cells #[.int .i64 e,.int .i64 n,v] t (0,0))):dZ w (.slice (some ⟨a,0,none⟩) 1 1) [⟨e,n,v,o⟩]:=by
 refine .inr ⟨⟨a,0,none⟩,1,rfl,by simp,by simp[maxLen],fun j u hj=>?_⟩
 rw[fD]
 simp only[ccells,gD,List.append_nil]at hj
 match j,hj with
 |0,hj=>simp at hj;subst hj;exact ai h 0 rfl
 |1,hj=>simp at hj;subst hj;exact ai h 1 rfl
 |2,hj=>simp at hj;subst hj;exact ai h 2 rfl
 |k+3,hj=>simp at hj
set_option maxRecDepth 100000
theorem af9 (z:Int)(h0:-9223372036854775808≤z)(h1:z<9223372036854775808):IntKind.i64.wrap z=z:=by
 unfold IntKind.wrap
 simp[IntKind.bits,IntKind.signed]
 omega
def ei (bad:Bool):Int:=if bad then 5 else 0
def fO (w0 w:World) (g:Nat) (vb:Value) (bs:List Int) (a:Nat) (bad:Bool):Prop:=
 Is .u8 w0 vb bs∧w0.heap.size≤g∧Below w0.heap.size w0 w∧w.heap[g]? =some (.cells #[vb,.int .i64 a,.int .i64 (ei bad)] 268 (0,0))∧a≤bs.length
section
variable {w0 w w':World} {g a:Nat} {vb:Value} {bs:List Int} {bad:Bool}
theorem fO.lt (h:fO w0 w g vb bs a bad):g<w.heap.size:=aA h.2.2.2.1
theorem fO.is (h:fO w0 w g vb bs a bad):Is .u8 w vb bs:=h.1.below h.2.2.1
theorem fO.below (h:fO w0 w g vb bs a bad)(hb:Below w.heap.size w w'):fO w0 w' g vb bs a bad:=
 ⟨h.1,h.2.1,h.2.2.1.trans (hb.mono h.2.2.1.size),(hb.block g h.lt).trans h.2.2.2.1,h.2.2.2.2⟩
theorem fO.grown (h:fO w0 w g vb bs a bad){row:Nat}(hb:w.grownBy w' (some row))(hr:w0.heap.size≤row)(hne:row≠g):fO w0 w' g vb bs a bad:=
 ⟨h.1,h.2.1,h.2.2.1.grown hb h.2.2.1.size (fun k hk=>by simp at hk;omega),(hb.block g h.lt (by simp;omega)).trans h.2.2.2.1,h.2.2.2.2⟩
theorem fO.cell0 (h:fO w0 w g vb bs a bad):w.cell? ⟨g,0,none⟩=some vb:=ai h.2.2.2.1 0 rfl
theorem fO.cell1 (h:fO w0 w g vb bs a bad):w.cell? ⟨g,1,none⟩=some (.int .i64 a):=ai h.2.2.2.1 1 rfl
theorem fO.asu (h:fO w0 w g vb bs a bad):w.cell? ⟨g,2,none⟩=some (.int .i64 (ei bad)):=ai h.2.2.2.1 2 rfl
theorem fO.good (h:fO w0 w g vb bs a false):w.cell? ⟨g,2,none⟩=some (.int .i64 0):=h.asu
theorem fO.ajP (h:fO w0 w g vb bs a true):w.cell? ⟨g,2,none⟩=some (.int .i64 5):=h.asu
theorem fO.kQ (h:fO w0 w g vb bs a bad)(j:Nat):w.frozen? ⟨g,j,none⟩=false:=az h.2.2.2.1 j
theorem fO.apJ (h:fO w0 w g vb bs a bad)(a':Nat)(ha:a'≤bs.length):fO w0 (w.setCell ⟨g,1,none⟩ (.int .i64 a')) g vb bs a' bad:=
 ⟨h.1,h.2.1,h.2.2.1.setCell (p:=⟨g,1,none⟩) h.2.1 _,by rw[aL h.2.2.2.1];rfl,ha⟩
theorem fO.akP (h:fO w0 w g vb bs a bad)(bad':Bool):fO w0 (w.setCell ⟨g,2,none⟩ (.int .i64 (ei bad'))) g vb bs a bad':=
 ⟨h.1,h.2.1,h.2.2.1.setCell (p:=⟨g,2,none⟩) h.2.1 _,by rw[aL h.2.2.2.1];rfl,h.2.2.2.2⟩
end
theorem aiW (vb:Value)(bs:List Int)(most u i g:Int)(w:World)(hb:Is .u8 w vb bs)(hl:bs.length≤140737488355328)(hm:most<9223372036854775808)(hm':-9223372036854775808≤most)(hS:xA bs most u i g):
  Calls Tryz.prog 210 #[vb,.int .i64 most] w fun E w'=>E=.returned (.tuple #[.int .i64 u,.int .i64 i,.int .i64 g])∧∃m,w'=w.drewN m:=
 (dH vb bs most u i g w hb (by omega) hm hm' hS).mono (by rintro E w' ⟨rfl,rfl⟩;exact⟨rfl,0,rfl⟩)
theorem rJ (w0 w:World)(g:Nat)(vb:Value)(bs:List Int)(a:Nat)(bad:Bool)(most:Nat)(h:fO w0 w g vb bs a bad)(hl:bs.length≤140737488355328)(hm:most<9223372036854775808):
  Calls Tryz.prog 236 #[.pointer (some ⟨g,0,none⟩),.int .i64 most] w fun E w'=>∃(u a':Nat) (bad':Bool),E=.returned (.int .i64 u)∧fO w0 w' g vb bs a' bad'∧w.grownBy w' (some g)∧Bm.SS bs most a bad u a' bad':=by
 have c0:=h.cell0
 have c1:=h.cell1
 have f1:=h.kQ 1
 have f2:=h.kQ 2
 have ha:=h.2.2.2.2
 cases bad
 ·have c2:=h.good
  obtain⟨vs,hsl,dC⟩:=h.is.dP Tryz.lG Tryz.nC a ha
  obtain⟨u,i,e,hS⟩:=ig (bs.drop a) most
  have hdl:(bs.drop a).length=bs.length-a:=by rw[List.length_drop]
  rcases hS with⟨hR,h1,h2,he⟩|⟨hu,hi,he,x,n,f,hR,hcase⟩
  ·have hbd:=Vm.kV hR
   obtain⟨un,rfl⟩:∃un:Nat,u=un:=⟨u.toNat,by omega⟩
   obtain⟨n,rfl⟩:∃n:Nat,i=n:=⟨i.toNat,by omega⟩
   have hG:Bm.SS bs most a false un (a+n) false:=by
    rcases hR with⟨x,hx,hp,h3,h4,_⟩|⟨_,_,_,h5⟩
    ·have:x=un:=by omega
     subst this
     exact .inr (.inr ⟨rfl,rfl,by omega,hp,by omega⟩)
    ·simp at h5
   have hS:xA (bs.drop a) most un n 0:=.inl ⟨hR,h1,h2,rfl⟩
   have HG:=hide hG
   have HS:=hide hS
   have HH:=hide h
   have hn1:a+n≤bs.length:=by omega
   have hn2:n≤10:=by omega
   clear hS hG hR hbd h he h1 h2
   go_enter Tryz.func236,Tryz.ntmps236
   go_wp2_with fail
   go_quiet ((go_at_call 210;refine Calls.quiet_of (aiW _ (bs.drop a) most un n 0 _ (dC.drewN _) (by omega) (by omega) (by omega) HS.out)))
   have r1:=HH.out.below (below_drewN (Below.refl _ _) nq)
   have R3:=hide ((r1.apJ (a+n) hn1).akP false)
   clear r1 dC hsl
   go_wp2
   go_ret
   exact⟨un,a+n,false,rfl,R3.out,aO (aO (jX _ _ _) (aC _ _ _)) (aC _ _ _),HG.out⟩
  ·have hG:Bm.SS bs most a false 0 a true:=by
    refine .inr (.inl ⟨rfl,rfl,rfl,rfl,fun y hy hp=>?_⟩)
    have:=Vm.nQ hR (u:=y) (by omega) hp
    omega
   have hS:xA (bs.drop a) most 0 0 5:=.inr ⟨rfl,rfl,rfl,x,n,f,hR,hcase⟩
   have HG:=hide hG
   have HS:=hide hS
   have HH:=hide h
   clear hS hG hR h he hcase hu hi
   go_enter Tryz.func236,Tryz.ntmps236
   go_wp2_with fail
   go_quiet ((go_at_call 210;refine Calls.quiet_of (aiW _ (bs.drop a) most 0 0 5 _ (dC.drewN _) (by omega) (by omega) (by omega) HS.out)))
   have r1:=HH.out.below (below_drewN (Below.refl _ _) nq)
   have R3:=hide ((r1.apJ a ha).akP true)
   clear r1 dC hsl
   go_wp2
   go_ret
   exact⟨0,a,true,rfl,R3.out,aO (aO (jX _ _ _) (aC _ _ _)) (aC _ _ _),HG.out⟩
 ·have c2:=h.ajP
  have HH:=hide h
  clear h
  go_enter Tryz.func236,Tryz.ntmps236
  go_wp2
  go_ret
  exact⟨0,a,true,rfl,HH.out,World.grownBy.refl _ _,.inl ⟨rfl,rfl,rfl,rfl⟩⟩
theorem ad4 (w0 w:World)(g:Nat)(vb:Value)(bs:List Int)(a:Nat)(bad:Bool)(n:Nat)(h:fO w0 w g vb bs a bad)(hl:bs.length≤140737488355328)(hm:n<4611686018427387904):
  Calls Tryz.prog 253 #[.pointer (some ⟨g,0,none⟩),.int .i64 n] w fun E w'=>∃(s:ByteArray) (zs:List Int) (a':Nat) (bad':Bool),E=.returned (.string s)∧s.data.toList=Om.gQ zs∧fO w0 w' g vb bs a' bad'∧w.grownBy w' (some g)∧Bm.BS bs n a bad zs a' bad':=by
 have c0:=h.cell0
 have c1:=h.cell1
 have f1:=h.kQ 1
 have f2:=h.kQ 2
 have ha:=h.2.2.2.2
 have hlen:=h.is.adj Tryz.lG
 cases bad
 ·have c2:=h.good
  by_cases hn:n≤bs.length-a
  ·obtain⟨vs,hsl,dC⟩:=h.is.xg Tryz.lG Tryz.nC a (a+n) (by omega) (by omega)
   rw[show a+n-a=n by omega]at dC
   have hsl2:∀wx,(Instr.slice 71 vb (some (.int .i64 (a:Int))) (some (.int .i64 ((a:Int)+(n:Int)))) none).run Tryz.prog wx=.ok vs wx:=by simpa using hsl
   have hwr:IntKind.i64.wrap ((a:Int)+(n:Int))=(a:Int)+n:=af9 _ (by omega) (by omega)
   have afq:=fun m=>(dC.drewN m).conv Tryz.underlying71 Tryz.underlying5 Tryz.underlying9
   clear hsl
   have hge:¬(bs.length:Int)-a<n:=by omega
   have HH:=hide h
   clear h
   go_enter Tryz.func253,Tryz.ntmps253
   go_wp2_with fail
   go_quiet (fail)
   go_wp2_with fail
   generalize nq=n1
   have ayR:=fun m=>afq (n1+m)
   go_quiet (fail)
   have r1:=HH.out.below (below_drewN (Below.refl _ _) (n1+nq))
   have k1:=r1.cell1
   have g1:=r1.kQ 1
   have R1:=hide r1
   clear r1 afq ayR dC hsl2
   go_wp2
   go_ret
   exact⟨_,(bs.drop a).take n,a+n,false,rfl,by simp,R1.out.apJ (a+n) (by omega),aO (jX _ _ _) (aC _ _ _),.inr ⟨rfl,hn,rfl,rfl,rfl⟩⟩
  ·have hge:(bs.length:Int)-a<n:=by omega
   have HH:=hide h
   clear h
   go_enter Tryz.func253,Tryz.ntmps253
   go_wp2_with fail
   go_quiet (fail)
   go_wp2
   go_ret
   exact⟨_,[],a,true,rfl,rfl,(HH.out.below (below_drewN (Below.refl _ _) nq)).akP true,aO (jX _ _ _) (aC _ _ _),.inl ⟨.inr (by omega),rfl,rfl,rfl⟩⟩
 ·have c2:=h.ajP
  have HH:=hide h
  clear h
  go_enter Tryz.func253,Tryz.ntmps253
  go_wp2
  go_ret
  exact⟨_,[],a,true,rfl,rfl,HH.out,World.grownBy.refl _ _,.inl ⟨.inl rfl,rfl,rfl,rfl⟩⟩
theorem Tryz.anI:∀args w,(callFunc 253 args).run Tryz.prog w=.ok (.enter 253 args) w:=enters_of Tryz.func253 (by kernel_rfl) rfl
theorem aqA {bs zs:List Int}{n sh a a':Nat}{bad bad':Bool}{s:ByteArray}(hs:s.data.toList=Om.gQ zs)(h:Bm.BS bs n a bad zs a' bad')(hn:n≤16-sh)(hsh:sh≤16):¬9223372036854775807<sh+s.size:=by
 have:=Bm.afn h
 have e:=congrArg List.length hs
 rw[Om.jJ,←Lib.size_eq]at e
 omega
theorem ahJ (w0 w:World)(g:Nat)(vb:Value)(bs:List Int)(a:Nat)(bad:Bool)(ah:ByteArray)(h:fO w0 w g vb bs a bad)(hl:bs.length≤140737488355328)(hah:ah.size≤16):
  Calls Tryz.prog 252 #[.pointer (some ⟨g,0,none⟩),.string ah] w fun E w'=>∃(k:ByteArray) (a':Nat) (bad':Bool),E=.returned (.string k)∧fO w0 w' g vb bs a' bad'∧w.grownBy w' (some g)∧Bm.KS bs a bad ah.data.toList k.data.toList a' bad':=by
 have hal:ah.data.toList.length=ah.size:=(Lib.size_eq ah).symm
 go_enter Tryz.func252,Tryz.ntmps252
 go_wp2_with fail
 refine(rJ w0 w g vb bs a bad ah.size h hl (by omega)).mono ?_
 rintro E w1 ⟨sh,a1,jl,rfl,r1,gr1,s1⟩
 have hsh:=Bm.vL s1
 have hsub:(16:Int)-sh=((16-sh:Nat):Int):=by omega
 have S1:=hide s1
 clear s1 h
 go_wp2_with fail
 refine(rJ w0 w1 g vb bs a1 jl (16-sh) r1 hl (by omega)).mono ?_
 rintro E w2 ⟨n,a2,jM,rfl,r2,gJ,s2⟩
 have hn:=Bm.vL s2
 have S2:=hide s2
 have R2:=hide r2
 clear s2 r1 r2
 have X:Hid (∀m,Calls Tryz.prog 253 #[.pointer (some ⟨g,0,none⟩),.int .i64 n] (w2.drewN m) fun E w'=>∃v,E=.returned v∧∃(s:ByteArray) (zs:List Int) (a':Nat) (bad':Bool),v=.string s∧s.data.toList=Om.gQ zs∧fO w0 w' g vb bs a' bad'∧(w2.drewN m).grownBy w' (some g)∧Bm.BS bs n a2 jM zs a' bad'):=
  hide fun m=>(ad4 w0 (w2.drewN m) g vb bs a2 jM n (R2.out.below (below_drewN (Below.refl _ _) m)) hl (by omega)).mono (by rintro E w' ⟨s,zs,a',bad',rfl,h⟩;exact⟨_,rfl,s,zs,a',bad',rfl,h⟩)
 go_wp2_with fail
 go_region_law (refine yS rfl 253 #[.tmp 19,.tmp 20] #[283,3] rfl Tryz.anI #[.pointer (some ⟨g,0,none⟩),.int .i64 n] (by simp[Act.eval,Act.put]) (X.out _) ?_;rintro vv w3 ⟨s,zs,a3,rG,rfl,hs,r3,gr3,s3⟩;have hss:=aqA hs s3 hn (by omega))
 all_goals
  have hsz:s.size≤16:=by
   have:=Bm.afn s3
   have e:=congrArg List.length hs
   rw[Om.jJ,←Lib.size_eq]at e
   omega
  have hdat:(ah.extract 0 sh++s).data.toList=ah.data.toList.take sh++Om.gQ zs:=by rw[←hs];simp
  have hksz:(ah.extract 0 sh++s).size≤32:=by rw[Lib.size_eq,hdat,List.length_append,←hs,←Lib.size_eq,List.length_take];omega
  have gr:w.grownBy w3 (some g):=aO gr1 (aO gJ (aO (jX _ 1 _) gr3))
  generalize ah.extract 0 sh++s=K at*
  rw[←hal]at S1
  have HK:∀bad',bad'=(rG||decide (Bm.com ah.data.toList K.data.toList≠sh))→Bm.KS bs a bad ah.data.toList K.data.toList a3 bad':=fun bad' e=>⟨sh,n,zs,a1,jl,a2,jM,rG,S1.out,S2.out,s3,hdat,e⟩
  have HK:=hide HK
  clear hdat hs s3 gr1 gJ gr3 X hss
  have f2:=r3.kQ 2
  cases rG
  ·have c2:=r3.good
   have R3:=hide r3
   clear r3
   go_wp2_with fail
   refine(wH ah K _ (by omega) (by omega)).mono ?_
   rintro E w4 ⟨rfl,aS⟩
   have r4:=R3.out.below aS
   have f4:=r4.kQ 2
   have d2:=r4.good
   have R4:=hide r4
   have xL:w.grownBy w4 (some g):=aO gr (kY aS _)
   clear r4 R3 aS gr c2 f2
   by_cases hc:Bm.com ah.data.toList K.data.toList=sh
   ·have hb:((Bm.com ah.data.toList K.data.toList:Int) !=(sh:Int))=false:=by rw[hc];simp
    have HK2:=hide (HK.out false (by simp[hc]))
    clear hc
    go_wp2
    go_ret
    exact⟨K,a3,false,rfl,R4.out,xL,HK2.out⟩
   ·have hb:((Bm.com ah.data.toList K.data.toList:Int) !=(sh:Int))=true:=by simp;omega
    have HK2:=hide (HK.out true (by simp[hc]))
    clear hc
    go_wp2
    go_ret
    exact⟨K,a3,true,rfl,R4.out.akP true,aO xL (aC _ _ _),HK2.out⟩
  ·have c2:=r3.ajP
   have R3:=hide r3
   clear r3
   go_wp2
   go_ret
   exact⟨K,a3,true,rfl,R3.out,gr,HK.out true (by simp)⟩
theorem avn (w0 w:World)(g:Nat)(vb:Value)(bs:List Int)(a:Nat)(bad:Bool)(ah:ByteArray)(h:fO w0 w g vb bs a bad)(hl:bs.length≤140737488355328)(hah:ah.size≤16):
  Calls Tryz.prog 237 #[.pointer (some ⟨g,0,none⟩),.string ah] w fun E w'=>∃(o:Bm.Ov) (a':Nat) (bad':Bool),E=.returned (tu o.p o.k o.v)∧fO w0 w' g vb bs a' bad'∧w.grownBy w' (some g)∧Bm.OS bs a bad ah.data.toList o a' bad'∧o.k.size≤16∧o.v.size≤32:=by
 unfold tu
 have hby:=h.is.bytes
 have hg:=h.lt
 have hw0:=h.2.2.1.size
 obtain⟨W,hW,szW,lM,ax7⟩:=ay w #[.bool false,.string ⟨#[]⟩,.string ⟨#[]⟩] 106
 have r0:=h.below lM
 have grW:=kY lM (some g)
 have HBY:=hide hby
 clear h hby
 go_enter Tryz.func237,Tryz.ntmps237
 go_wp2_with fail
 refine(rJ w0 W g vb bs a bad 1 r0 hl (by omega)).mono ?_
 rintro E w1 ⟨mark,a1,jl,rfl,r1,gr1,s1⟩
 have bH:=gr1.size
 have afx:=(gr1.block w.heap.size (by omega) (by simp;omega)).trans ax7
 have hmark:=Bm.vL s1
 have grA:w.grownBy w1 (some g):=aO grW gr1
 clear r0 grW gr1 ax7 lM hW
 rcases(show mark=0∨mark=1 by omega)with rfl|rfl
 ·have S1:=hide s1
  clear s1
  go_wp2_with fail
  refine(ahJ w0 w1 g vb bs a1 jl ah r1 hl hah).mono ?_
  rintro E w2 ⟨k,a2,jM,rfl,r2,gJ,ks⟩
  have fA:=gJ.size
  have abt:=(gJ.block w.heap.size (by omega) (by simp;omega)).trans afx
  obtain⟨W3,hW3,fZ,aH,iY⟩:=ay w2 #[.bool false,.string k,.string ⟨#[]⟩] 106
  have O0:=az iY 0
  have O1:=az iY 1
  have O2:=az iY 2
  have x0:W3.setCell ⟨w2.heap.size,0,none⟩ (.bool false)=W3:=aI iY (j:=0) rfl
  have x1:W3.setCell ⟨w2.heap.size,1,none⟩ (.string k)=W3:=aI iY (j:=1) rfl
  have x2:W3.setCell ⟨w2.heap.size,2,none⟩ (.string ⟨#[]⟩)=W3:=aI iY (j:=2) rfl
  have r3:=r2.below aH
  have mU:=(aH.block w.heap.size (by omega)).trans abt
  have o0:W3.cell? ⟨w2.heap.size,0,none⟩=some (.bool false):=ai iY 0 rfl
  have o1:W3.cell? ⟨w2.heap.size,1,none⟩=some (.string k):=ai iY 1 rfl
  have o2:W3.cell? ⟨w2.heap.size,2,none⟩=some (.string ⟨#[]⟩):=ai iY 2 rfl
  have R0:W3.cell? ⟨w.heap.size,0,none⟩=some (.bool false):=ai mU 0 rfl
  have R1:W3.cell? ⟨w.heap.size,1,none⟩=some (.string ⟨#[]⟩):=ai mU 1 rfl
  have R2:W3.cell? ⟨w.heap.size,2,none⟩=some (.string ⟨#[]⟩):=ai mU 2 rfl
  have F0:=az mU 0
  have F1:=az mU 1
  have F2:=az mU 2
  obtain⟨V',hV',ic,dK⟩:=ao7 mU (.bool false) (.string k) (.string ⟨#[]⟩)
  have k0:V'.cell? ⟨w.heap.size,0,none⟩=some (.bool false):=ai ic 0 rfl
  have k1:V'.cell? ⟨w.heap.size,1,none⟩=some (.string k):=ai ic 1 rfl
  have k2:V'.cell? ⟨w.heap.size,2,none⟩=some (.string ⟨#[]⟩):=ai ic 2 rfl
  have grB:w.grownBy V' (some g):=grown_fresh (aO (aO grA gJ) (kY aH _)) dK (Nat.le_refl _)
  have rV:fO w0 V' g vb bs a2 jM:=r3.grown dK hw0 (by omega)
  have hOS:Bm.OS bs a bad ah.data.toList ⟨false,k,⟨#[]⟩⟩ a2 jM:=Bm.azt HBY.out S1.out ks rfl rfl rfl
  have hkl:=Bm.aog ks (by rw[←Lib.size_eq];exact hah)
  rw[←Lib.size_eq]at hkl
  have RV:=hide rV
  have OS:=hide hOS
  clear ks r1 r2 r3 afx abt mU iY ic dK rV hOS grA gJ aH
  go_wp2
  refine bodyPost_ret (v:=.agg #[.bool false,.string k,.string ⟨#[]⟩]) (by simp[results,Tryz.results237,go_sem,k0,k1,k2]) rfl ?_
  exact⟨⟨false,k,⟨#[]⟩⟩,a2,jM,rfl,RV.out,grB,OS.out,hkl,by simp[ByteArray.size]⟩
 ·have S1:=hide s1
  clear s1
  go_wp2_with fail
  refine(ahJ w0 w1 g vb bs a1 jl ah r1 hl hah).mono ?_
  rintro E w2 ⟨k,a2,jM,rfl,r2,gJ,ks⟩
  have fA:=gJ.size
  have abt:=(gJ.block w.heap.size (by omega) (by simp;omega)).trans afx
  obtain⟨W3,hW3,fZ,aH,iY⟩:=ay w2 #[.bool true,.string k,.string ⟨#[]⟩] 106
  have O0:=az iY 0
  have O1:=az iY 1
  have O2:=az iY 2
  have x0:W3.setCell ⟨w2.heap.size,0,none⟩ (.bool true)=W3:=aI iY (j:=0) rfl
  have x1:W3.setCell ⟨w2.heap.size,1,none⟩ (.string k)=W3:=aI iY (j:=1) rfl
  have x2:W3.setCell ⟨w2.heap.size,2,none⟩ (.string ⟨#[]⟩)=W3:=aI iY (j:=2) rfl
  have r3:=r2.below aH
  have mU:=(aH.block w.heap.size (by omega)).trans abt
  have o0:W3.cell? ⟨w2.heap.size,0,none⟩=some (.bool true):=ai iY 0 rfl
  have o1:W3.cell? ⟨w2.heap.size,1,none⟩=some (.string k):=ai iY 1 rfl
  have o2:W3.cell? ⟨w2.heap.size,2,none⟩=some (.string ⟨#[]⟩):=ai iY 2 rfl
  have grB:w.grownBy W3 (some g):=aO (aO grA gJ) (kY aH _)
  have hkl:=Bm.aog ks (by rw[←Lib.size_eq];exact hah)
  rw[←Lib.size_eq]at hkl
  have KS:=hide ks
  clear ks r1 r2 grA gJ aH afx abt
  go_wp2_with fail
  refine(rJ w0 W3 g vb bs a2 jM 32 r3 hl (by omega)).mono ?_
  rintro E w4 ⟨n,a4,jQ,rfl,r4,xL,s4⟩
  have hn:=Bm.vL s4
  have pK:=xL.size
  have asS:=(xL.block w.heap.size (by omega) (by simp;omega)).trans mU
  have atc:=(xL.block w2.heap.size (by omega) (by simp;omega)).trans iY
  have S4:=hide s4
  clear s4
  go_wp2_with fail
  refine(ad4 w0 w4 g vb bs a4 jQ n r4 hl (by omega)).mono ?_
  rintro E w5 ⟨s,ys,a5,wu,rfl,hs,r5,gr5,s5⟩
  have pq:=gr5.size
  have asO:=(gr5.block w.heap.size (by omega) (by simp;omega)).trans asS
  have afd:=(gr5.block w2.heap.size (by omega) (by simp;omega)).trans atc
  have p2:w5.cell? ⟨w2.heap.size,2,none⟩=some (.string ⟨#[]⟩):=ai afd 2 rfl
  have q2:=az afd 2
  obtain⟨W6,hW6⟩:∃W6,w5.setCell ⟨w2.heap.size,2,none⟩ (.string s)=W6:=⟨_,rfl⟩
  have afz:W6.heap[w2.heap.size]? =some (.cells #[.bool true,.string k,.string s] 106 (0,0)):=by rw[←hW6];exact aL afd 2 (.string s)
  have gr6:w5.grownBy W6 (some w2.heap.size):=by rw[←hW6];exact aC w5 ⟨w2.heap.size,2,none⟩ _
  have tC:=gr6.size
  have sZ:=(gr6.block w.heap.size (by omega) (by simp;omega)).trans asO
  have r6:=r5.grown gr6 (by omega) (by omega)
  have o0:W6.cell? ⟨w2.heap.size,0,none⟩=some (.bool true):=ai afz 0 rfl
  have o1:W6.cell? ⟨w2.heap.size,1,none⟩=some (.string k):=ai afz 1 rfl
  have o2:W6.cell? ⟨w2.heap.size,2,none⟩=some (.string s):=ai afz 2 rfl
  have R0:W6.cell? ⟨w.heap.size,0,none⟩=some (.bool false):=ai sZ 0 rfl
  have R1:W6.cell? ⟨w.heap.size,1,none⟩=some (.string ⟨#[]⟩):=ai sZ 1 rfl
  have R2:W6.cell? ⟨w.heap.size,2,none⟩=some (.string ⟨#[]⟩):=ai sZ 2 rfl
  have F0:=az sZ 0
  have F1:=az sZ 1
  have F2:=az sZ 2
  obtain⟨V',hV',ic,dK⟩:=ao7 sZ (.bool true) (.string k) (.string s)
  have k0:V'.cell? ⟨w.heap.size,0,none⟩=some (.bool true):=ai ic 0 rfl
  have k1:V'.cell? ⟨w.heap.size,1,none⟩=some (.string k):=ai ic 1 rfl
  have k2:V'.cell? ⟨w.heap.size,2,none⟩=some (.string s):=ai ic 2 rfl
  have grC:w.grownBy V' (some g):=grown_fresh (grown_fresh (aO (aO grB xL) gr5) gr6 (by omega)) dK (Nat.le_refl _)
  have rV:fO w0 V' g vb bs a5 wu:=r6.grown dK hw0 (by omega)
  have hOS:Bm.OS bs a bad ah.data.toList ⟨true,k,s⟩ a5 wu:=Bm.ax0 HBY.out S1.out KS.out rfl rfl hs S4.out s5
  have hsl:s.size≤32:=by
   have:=Bm.afn s5
   have e:=congrArg List.length hs
   rw[Om.jJ,←Lib.size_eq]at e
   omega
  have RV:=hide rV
  have OS:=hide hOS
  clear hs s5 r4 r5 r6 rV hOS mU asS asO sZ iY atc afd afz ic dK grB xL gr5 gr6
  go_wp2
  refine bodyPost_ret (v:=.agg #[.bool true,.string k,.string s]) (by simp[results,Tryz.results237,go_sem,k0,k1,k2]) rfl ?_
  exact⟨⟨true,k,s⟩,a5,wu,rfl,RV.out,grC,OS.out,hkl,hsl⟩
def rE (l:List Bm.Ov):Prop:=∀o∈l,o.k.size≤16∧o.v.size≤32
theorem rE.fit {l:List Bm.Ov}(h:rE l):fG l:=fun o ho=>by have:=h o ho;omega
theorem rE.snoc {l:List Bm.Ov}{o:Bm.Ov}(h:rE l)(h1:o.k.size≤16)(h2:o.v.size≤32):rE (l++[o]):=by
 intro x hx
 rcases List.mem_append.1 hx with hx|hx
 ·exact h x hx
 ·rw[List.mem_singleton.1 hx];exact⟨h1,h2⟩
theorem rD {l:List Bm.Ov}(h:Bm.eF l=0):rE l:=by
 intro o ho
 have:=Om.fI ((Bm.dM h).2.2 o ho)
 simp only[Bm.Ov.kl,Bm.Ov.vl,←Lib.size_eq]at this
 omega
theorem amd (vb:Value)(bs:List Int)(w:World)(hb:Is .u8 w vb bs)(hl:bs.length≤140737488355328):
  Calls Tryz.prog 225 #[vb] w fun E w'=>∃(vl:Value) (l:List Bm.Ov) (n e:Int),E=.returned (.tuple #[vl,.int .i64 n,.int .i64 e])∧aV 106 w.heap.size w' vl l∧Bm.ahz bs l n e∧Below w.heap.size w w':=by
 obtain⟨i0,hi,hz0,hz1,hz2⟩:=info_parts Tryz.nR
 obtain⟨ao,cap,rfl,_,_⟩:=hb.shape
 obtain⟨W1,hW1,bH,ax,rC⟩:=ay w #[.slice ao bs.length cap,.int .i64 0,.int .i64 0] 268
 have r1:fO w W1 w.heap.size (.slice ao bs.length cap) bs 0 false:=⟨hb,by omega,ax,rC,by omega⟩
 have c0:W1.cell? ⟨w.heap.size,0,none⟩=some (.slice ao bs.length cap):=ai rC 0 rfl
 have c1:W1.cell? ⟨w.heap.size,1,none⟩=some (.int .i64 0):=ai rC 1 rfl
 have c2:W1.cell? ⟨w.heap.size,2,none⟩=some (.int .i64 0):=ai rC 2 rfl
 have f0:=az rC 0
 have f1:=az rC 1
 have f2:=az rC 2
 have x0:W1.setCell ⟨w.heap.size,0,none⟩ (.slice ao bs.length cap)=W1:=aI rC (j:=0) rfl
 have x1:W1.setCell ⟨w.heap.size,1,none⟩ (.int .i64 0)=W1:=aI rC (j:=1) rfl
 have x2:W1.setCell ⟨w.heap.size,2,none⟩ (.int .i64 0)=W1:=aI rC (j:=2) rfl
 clear rC
 go_enter Tryz.func225,Tryz.ntmps225
 go_wp2_with fail
 refine(rJ w W1 w.heap.size _ bs 0 false 8 r1 hl (by omega)).mono ?_
 rintro E w2 ⟨c,a2,jM,rfl,r2,gJ,s2⟩
 have hc8:=Bm.vL s2
 have fA:=gJ.size
 have LS0:=hide (Bm.api s2)
 clear s2 r1
 go_wp2_with (at_make;refine wpList_make_own _ rfl _ _ 30 rfl (w.heap.size+1) 106 i0 (.agg #[.bool false,.string ⟨#[]⟩,.string ⟨#[]⟩]) 3 Tryz.underlying30 hi hz0 hz1 _ _ _ c rfl rfl (by omega) ?b2 ?b3 (by omega) ?_)
 case b2=>rw[hz2];omega
 case b3=>unfold maxLen;omega
 intro w3 hown3 hgrow3
 have aH:Below w2.heap.size w2 w3:=(Below.refl _ _).grown hgrow3 (Nat.le_refl _) (by simp)
 have df:aV 106 (w.heap.size+1) w3 (.slice (some ⟨w2.heap.size,0,none⟩) 0 c) []:=hown3
 have r3:=r2.below aH
 have fZ:=aH.size
 clear r2 aH hown3 hgrow3 gJ c0 c1 c2 f0 f1 f2 x0 x1 x2 hW1 ax
 go_wp2
 go_loopw [2,7,15] (fun lv av i wr=>∃(k:Nat) (l:List Bm.Ov) (ah:ByteArray) (a:Nat) (bad:Bool),k≤c∧i=.int .i64 k∧av=.string ah∧ah.size≤16∧l.length=k∧Hid (rE l)∧aV 106 (w.heap.size+1) wr lv l∧fO w wr w.heap.size (.slice ao bs.length cap) bs a bad∧Hid (Bm.LS bs c l a bad ah.data.toList)) (fun _ _ i _=>c-(intOf i).toNat)
 case atStart=>exact⟨0,[],⟨#[]⟩,a2,jM,by omega,rfl,rfl,by simp[ByteArray.size],rfl,hide (fun o ho=>by simp at ho),df,r3,LS0⟩
 case round=>
  obtain⟨k,l,ah,a,bad,hk,rfl,rfl,hah,hlk,HS,own,r,L⟩:=hrel
  have hgl:=r.lt
  by_cases hlt:k<c
  ·have hlt':(k:Int)<c:=by omega
   go_wp2_with fail
   refine(avn w wr w.heap.size _ bs a bad ah r hl hah).mono ?_
   rintro E w4 ⟨o,a4,jQ,rfl,r4,xL,os4,hok,hov⟩
   unfold tu
   have pK:=xL.size
   have bM:=own.kept xL (by
    rcases hv:Value.ownBlock _ with _|b
    ·exact .inl rfl
    ·refine .inr fun e=>?_
     have:=own.block b hv
     simp at e
     omega)
   have asF:=bM.block
   have L4:=hide (Bm.auj L.out (by omega) os4)
   have HS4:=hide (HS.out.snoc hok hov)
   obtain⟨w5,kL,pq,aX,rQ⟩:=ay w4 #[.bool o.p,.string o.k,.string o.v] 106
   have p0:w5.cell? ⟨w4.heap.size,0,none⟩=some (.bool o.p):=ai rQ 0 rfl
   have p1:w5.cell? ⟨w4.heap.size,1,none⟩=some (.string o.k):=ai rQ 1 rfl
   have p2:w5.cell? ⟨w4.heap.size,2,none⟩=some (.string o.v):=ai rQ 2 rfl
   have q0:=az rQ 0
   have q1:=az rQ 1
   have q2:=az rQ 2
   have x0:w5.setCell ⟨w4.heap.size,0,none⟩ (.bool o.p)=w5:=aI rQ (j:=0) rfl
   have x1:w5.setCell ⟨w4.heap.size,1,none⟩ (.string o.k)=w5:=aI rQ (j:=1) rfl
   have x2:w5.setCell ⟨w4.heap.size,2,none⟩ (.string o.v)=w5:=aI rQ (j:=2) rfl
   have dI:=bM.below aX
   have r5:=r4.below aX
   obtain⟨w6,uz,tC,dJ,eu⟩:=lN 106 w5 #[.bool o.p,.string o.k,.string o.v] 1 [o] rfl rfl (by simp[maxLen])
   rw[pq]at eu
   have jO:=dI.below dJ
   have r6:=r5.below dJ
   have acW:=(dJ.block w4.heap.size (by omega)).trans rQ
   have B6:=hide acW
   have R6:=hide r6
   clear os4 own bM dI r r4 r5 r6 rQ acW aX dJ xL L HS
   go_wp2_with (at_builtin;refine iN rfl (.tmp 19) (.tmp 21) 30 rfl 106 (w.heap.size+1) Tryz.underlying30 Tryz.nR _ l rfl jO _ [o] rfl eu.is (by simp;omega) (by omega) ?_)
   intro v8 w8 mP lg gr8
   have ayB:=(gr8.block w4.heap.size (by omega) (fun e=>by have:=asF _ e.symm;omega)).trans B6.out
   have r8:fO w w8 w.heap.size (.slice ao bs.length cap) bs a4 jQ:=by
    obtain⟨h1,h2,h3,h4,h5⟩:=R6.out
    have hs:=h3.size
    exact⟨h1,h2,h3.trans (lg.mono (by omega)),(lg.block w.heap.size (by omega)).trans h4,h5⟩
   have k1:w8.cell? ⟨w4.heap.size,1,none⟩=some (.string o.k):=ai ayB 1 rfl
   clear ayB jO eu gr8 lg B6 R6 p0 p1 p2 q0 q1 q2 x0 x1 x2 asF kL uz
   go_wp2
   go_roundw
   case rel=>exact⟨k+1,l++[o],o.k,a4,jQ,by omega,by go_num,rfl,hok,by simp[hlk],HS4,mP,r8,L4⟩
   case measure=>simp[intOf];omega
  ·have hke:k=c:=by omega
   have hlt':¬(k:Int)<c:=by omega
   have bN:Below w.heap.size w wr:=r.2.2.1
   cases bad
   ·have e2:=r.good
    have e1:=r.cell1
    have R:=hide r
    clear r
    by_cases hc:Bm.eF l=0
    ·have HR:=hide (Bm.avA L.out (by omega) hc)
     have HC:=hide hc
     clear hc L
     go_wp2_with fail
     refine(mX _ l _ own.is HS.out.fit (by omega)).mono ?_
     rintro E w9 ⟨rfl,iU⟩
     rw[HC.out]
     have r9:=R.out.below iU
     have e19:=r9.cell1
     have aqZ:=(own.below iU).bz (base':=w.heap.size) (by omega)
     have vR:Below w.heap.size w w9:=bN.trans (iU.mono bN.size)
     clear own r9 iU
     go_wp2_with fail
     go_quiet (fail)
     go_wp2
     refine bodyPost_ret (v:=.tuple #[_,.int .i64 (a:Int),.int .i64 0]) (by simp[results,Tryz.results225,go_sem];rfl) rfl ?_
     exact⟨_,l,_,_,rfl,aqZ.below (below_drewN (Below.refl _ _) nq),HR.out,below_drewN vR nq⟩
    ·have HR:=hide (Bm.aoa L.out (fun _=>by omega) (.inr hc))
     obtain⟨cc,hcc⟩:∃cc,Bm.eF l=cc:=⟨_,rfl⟩
     have hcb:(cc !=0)=true:=by rw[←hcc];simpa using hc
     have HC:=hide hcc
     clear hc L hcc
     go_wp2_with fail
     refine(mX _ l _ own.is HS.out.fit (by omega)).mono ?_
     rintro E w9 ⟨rfl,iU⟩
     rw[HC.out]
     have vR:Below w.heap.size w w9:=bN.trans (iU.mono bN.size)
     go_wp2
     refine bodyPost_ret (v:=.tuple #[.slice none 0 0,.int .i64 0,.int .i64 5]) (by simp[results,Tryz.results225,go_sem]) rfl ?_
     exact⟨_,[],_,_,rfl,aV.nil _ _ _,HR.out,vR⟩
   ·have e2:=r.ajP
    have HR:=hide (Bm.aoa L.out (fun h=>by simp at h) (.inl rfl))
    clear L r
    go_wp2
    refine bodyPost_ret (v:=.tuple #[.slice none 0 0,.int .i64 0,.int .i64 5]) (by simp[results,Tryz.results225,go_sem]) rfl ?_
    exact⟨_,[],_,_,rfl,aV.nil _ _ _,HR.out,bN⟩
theorem Tryz.jY:Tryz.prog.underlying 71=some (.slice (Tryz.prog.elem 71)):=by kernel_rfl
theorem Tryz.lH (wx:World):(sizeOf (Tryz.prog.elem 71)).run Tryz.prog wx=.ok 1 wx:=by kernel_rfl
namespace Bm
open Vm Om
def LA (bs:List Int) (a0 c:Nat) (l:List Ov) (a:Nat) (bad:Bool) (ah:List UInt8):Prop:=
 (bad=false∧c≤8∧enc c<+:bs.drop a0∧eP [] l<+:bs.drop (a0+sz c)∧a=a0+sz c+(eP [] l).length∧ah=aj [] l∧∀o∈l,o.shape)∨(bad=true∧NB (bs.drop a0))
def NX (bs:List Int) (a:Nat) (bad:Bool) (l:List Ov) (a':Nat) (bad':Bool):Prop:=
 (bad=true∧bad'=true∧l=[])∨(bad=false∧((bad'=false∧ahz (bs.drop a) l ((a':Int)-a) 0)∨(bad'=true∧l=[]∧ahz (bs.drop a) [] 0 5)))
end Bm
def agh (bs:List Int) (e n:Int) (l:List Bm.Ov) (k g:Int):Prop:=
 (g=0∧∃x y:Nat,x≤1048576∧y≤1048576∧Vm.enc x<+:bs∧Vm.enc y<+:bs.drop (Vm.sz x)∧Bm.eF l=0∧Bm.eQ l<+:bs.drop (Vm.sz x+Vm.sz y)∧e=x∧n=y∧k=((Vm.sz x+Vm.sz y+(Bm.eQ l).length:Nat):Int))∨
 (g=5∧e=0∧n=0∧l=[]∧k=0∧∀e' n' l',Cm.aJ e' n' l'=0→Cm.iL e' n' l'≠bs)
theorem af3 {bs:List Int}{u i g:Int}(h:xA bs 1048576 u i g):
  (g=0∧∃x s:Nat,x≤1048576∧Vm.enc x<+:bs∧Vm.sz x=s∧u=x∧i=s∧s≤bs.length∧s≤10)∨(g=5∧u=0∧i=0∧Cm.akf bs):=by
 rcases h with⟨hR,_,h2,rfl⟩|⟨rfl,rfl,rfl,x,n,e,hR,hx⟩
 ·have hb:=Vm.kV hR
  rcases hR with⟨x,h3,h4,rfl,rfl,_⟩|⟨_,_,_,h⟩
  ·exact .inl ⟨rfl,x,_,by omega,h4,rfl,rfl,rfl,by omega,by omega⟩
  ·simp at h
 ·refine .inr ⟨rfl,rfl,rfl,fun y hy hp=>?_⟩
  obtain⟨e1,e2,e3⟩:=Vm.nQ hR (by omega) hp
  omega
theorem amR (vb:Value)(bs:List Int)(w:World)(hb:Is .u8 w vb bs)(hl:bs.length≤140737488355328):
  Calls Tryz.prog 211 #[vb] w fun E w'=>∃(e n k g:Int) (v:Value) (l:List Bm.Ov),E=.returned (.tuple #[cZ e n v,.int .i64 k,.int .i64 g])∧aV 106 w.heap.size w' v l∧agh bs e n l k g∧Below w.heap.size w w':=by
 unfold cZ
 obtain⟨w1,hw1,bH,ax,hB⟩:=ay w #[.int .i64 0,.int .i64 0,.slice none 0 0] 32
 have hb1:=hb.below ax
 obtain⟨u,i,g,hS⟩:=ig bs 1048576
 obtain⟨ao,cap,rfl,_,_⟩:=hb.shape
 obtain⟨Z,hZ,bZ,gZ,⟨a0,a1,a2⟩,⟨f0,f1,f2⟩,⟨z0,z1,z2⟩⟩:=dN hB (.int .i64 0) (.int .i64 0) (.slice none 0 0)
 have aaY:=aK ax gZ (Nat.le_refl _) (by omega)
 have HB:=hide hB
 have HS:=hide hS
 clear hB bZ gZ
 go_enter Tryz.func211,Tryz.ntmps211
 go_wp2_with fail
 refine(dH _ bs 1048576 u i g _ hb1 (by omega) (by omega) (by omega) HS.out).mono ?_
 rintro E w2 ⟨rfl,rfl⟩
 rcases af3 HS.out with⟨rfl,x,s,hx,px,hsx,rfl,rfl,hsl,uo⟩|⟨rfl,rfl,rfl,hN⟩
 ·obtain⟨vs,hvs,dC⟩:=hb1.dP Tryz.lG Tryz.nC s hsl
  obtain⟨u,i,g,hS2⟩:=ig (bs.drop s) 1048576
  have HX:Hid (Vm.enc x<+:bs∧Vm.sz x=s):=⟨px,hsx⟩
  have HS2:=hide hS2
  clear px hsx hS2 HS
  go_wp2_with fail
  refine(dH _ _ 1048576 u i g _ dC (by rw[List.length_drop];omega) (by omega) (by omega) HS2.out).mono ?_
  rintro E w2 ⟨rfl,rfl⟩
  rcases af3 HS2.out with⟨rfl,y,r,hy,py,hsy,rfl,rfl,hrl,hr10⟩|⟨rfl,rfl,rfl,hN⟩
  ·rw[List.length_drop]at hrl
   obtain⟨vr,hvr,isr⟩:=hb1.dP Tryz.lG Tryz.nC (s+r) (by omega)
   have HY:Hid (Vm.enc y<+:bs.drop s∧Vm.sz y=r):=⟨py,hsy⟩
   push_cast at hvr
   clear py hsy HS2
   go_wp2_with fail
   refine(amd vr _ _ isr (by rw[List.length_drop];omega)).mono ?_
   rintro E w3 ⟨vl,l,k,e,rfl,yn,hR,aH⟩
   have fZ:=aH.size
   have hB3:=(aH.block w.heap.size (by omega)).trans HB.out
   have bP:=ax.trans (aH.mono (by omega))
   obtain⟨px,hsx⟩:=HX.out
   obtain⟨py,hsy⟩:=HY.out
   clear HX HY hZ a0 a1 a2 f0 f1 f2 z0 z1 z2 aaY ax aH hb1 dC isr hvs hvr hb
   rcases hR with⟨rfl,hc,hp,rfl⟩|⟨rfl,rfl,rfl,hno⟩
   ·obtain⟨ah,ch,hvl,_,_⟩:=yn.is.shape
    subst hvl
    have hpl:=hp.length_le
    rw[List.length_drop]at hpl
    obtain⟨V,hV,bV,gV,⟨a0,a1,a2⟩,⟨f0,f1,f2⟩,⟨z0,z1,z2⟩⟩:=dN hB3 (.int .i64 x) (.int .i64 y) (.slice ah l.length ch)
    have bn:=aK bP gV (Nat.le_refl _) (by omega)
    have iE:=(yn.qz gV (by omega)).bz (base':=w.heap.size) (by omega)
    have HR:Hid (agh bs x y l ((s+r+(Bm.eQ l).length:Nat):Int) 0):=hide (.inl ⟨rfl,x,y,hx,hy,px,by rw[hsx];exact py,hc,by rw[hsx,hsy];exact hp,rfl,rfl,by rw[hsx,hsy]⟩)
    clear px py hsx hsy hc hp bV gV hB3 yn bP
    go_wp2
    refine bodyPost_ret (v:=.tuple #[.agg #[.int .i64 x,.int .i64 y,.slice ah l.length ch],.int .i64 ((s+r+(Bm.eQ l).length:Nat):Int),.int .i64 0]) (by simp[results,Tryz.results211,go_sem,z0,z1,z2]) rfl ?_
    exact⟨_,_,_,_,_,_,rfl,iE,HR.out,bn⟩
   ·obtain⟨V,hV,bV,gV,⟨a0,a1,a2⟩,⟨f0,f1,f2⟩,⟨z0,z1,z2⟩⟩:=dN hB3 (.int .i64 0) (.int .i64 0) (.slice none 0 0)
    have bn:=aK bP gV (Nat.le_refl _) (by omega)
    have HR:Hid (agh bs 0 0 [] 0 5):=hide (.inr ⟨rfl,rfl,rfl,rfl,rfl,Cm.arw px (by rw[hsx];exact py) (by rw[hsx,hsy];exact hno)⟩)
    clear px py hsx hsy hno bV gV hB3 yn bP
    go_wp2
    refine bodyPost_ret (v:=.tuple #[.agg #[.int .i64 0,.int .i64 0,.slice none 0 0],.int .i64 0,.int .i64 5]) (by simp[results,Tryz.results211,go_sem,z0,z1,z2]) rfl ?_
    exact⟨_,_,_,_,_,_,rfl,aV.nil _ _ _,HR.out,bn⟩
  ·have HR:Hid (agh bs 0 0 [] 0 5):=hide (.inr ⟨rfl,rfl,rfl,rfl,rfl,Cm.anf HX.out.1 (by rw[HX.out.2];exact hN)⟩)
   clear hN HS2 HX
   go_wp2
   refine bodyPost_ret (v:=.tuple #[.agg #[.int .i64 0,.int .i64 0,.slice none 0 0],.int .i64 0,.int .i64 5]) (by simp[results,Tryz.results211,go_sem,z0,z1,z2]) rfl ?_
   exact⟨_,_,_,_,_,_,rfl,aV.nil _ _ _,HR.out,aaY⟩
 ·have HR:Hid (agh bs 0 0 [] 0 5):=hide (.inr ⟨rfl,rfl,rfl,rfl,rfl,Cm.aoJ hN⟩)
  clear hN HS
  go_wp2
  refine bodyPost_ret (v:=.tuple #[.agg #[.int .i64 0,.int .i64 0,.slice none 0 0],.int .i64 0,.int .i64 5]) (by simp[results,Tryz.results211,go_sem,z0,z1,z2]) rfl ?_
  exact⟨_,_,_,_,_,_,rfl,aV.nil _ _ _,HR.out,aaY⟩
def ends (l:List Cm.Cv):List Int:=(List.range l.length).map fun i=>((Wl.aW (l.take (i+1))).length:Int)
theorem wL (l:List Cm.Cv):(ends l).length=l.length:=by simp[ends]
theorem aug (l:List Cm.Cv)(i:Nat)(hi:i<l.length):(ends l).getD i 0=(Wl.aW (l.take (i+1))).length:=by
 simp[ends,List.getD_eq_getElem?_getD,hi]
theorem alJ (l:List Cm.Cv)(c:Cm.Cv):ends (l++[c])=ends l++[((Wl.aW (l++[c])).length:Int)]:=by
 unfold ends
 rw[List.length_append,List.length_singleton,List.range_succ,List.map_append]
 congr 1
 ·apply List.map_congr_left
  intro i hi
  rw[List.mem_range]at hi
  rw[List.take_append_of_le_length (by omega)]
 ·rw[List.map_singleton,List.take_of_length_le (by simp)]
theorem eB {l:List Cm.Cv}(h:Cm.Good 0 0 l):l.length≤1048576:=by
 rcases List.eq_nil_or_concat l with rfl|⟨r,c,rfl⟩
 ·simp
 ·have hk:(r.concat c)[r.length]? =some c:=by rw[List.concat_eq_append];simp
  obtain⟨h1,h2,_⟩:=Cm.qK (r.concat c) 0 0 r.length c h hk
  have:=Cm.bu h1
  rw[List.concat_eq_append,List.length_append,List.length_singleton]
  omega
theorem ahS {l:List Cm.Cv}(h:Cm.Good 0 0 l):(Wl.aW l).length≤454033408:=by
 have h1:=Wl.aem h
 have h2:=eB h
 omega
theorem abd {rs:List Cw}{l:List Cm.Cv}(h:Cm.Good 0 0 l)(he:aD rs=l):fF rs∧∀c∈rs,In64 c.e∧In64 c.n∧c.l.length≤8:=by
 have key:∀c∈rs,Cm.aJ c.e c.n c.l=0:=by
  intro c hc
  obtain⟨k,hk⟩:=List.getElem?_of_mem hc
  have:l[k]? =some c.c:=by rw[←he,aD,List.getElem?_map,hk];rfl
  exact(Cm.qK l 0 0 k c.c h this).1
 constructor
 ·intro c hc
  obtain⟨_,_,_,_,h5⟩:=Cm.bu (key c hc)
  have:=(Bm.dM h5).2.1
  exact⟨(rD h5).fit,by omega⟩
 ·intro c hc
  obtain⟨h1,h2,h3,h4,h5⟩:=Cm.bu (key c hc)
  have:=(Bm.dM h5).2.1
  exact⟨⟨by omega,by omega⟩,⟨by omega,by omega⟩,this⟩
structure Lr (base:Nat) (w:World) (vc ve:Value) (rs:List Cw) (zs:List Int):Prop where
 row:bG 32 base w vc rs
 gT:fC base w rs
 en:Own .i64 3 base w ve zs
structure Lw (base:Nat) (w:World) (l:List Cm.Cv) (vc ve:Value) (rs:List Cw):Prop where
 r:Lr base w vc ve rs (ends l)
 is:aD rs=l
 good:Cm.Good 0 0 l
def LB (vc ve:Value) (rs:List Cw) (g:Nat):Prop:=vc.ownBlock=some g∨ve.ownBlock=some g∨∃c∈rs,c.v.ownBlock=some g
section
variable {base base':Nat} {w w':World} {l:List Cm.Cv} {vc ve:Value} {rs:List Cw} {F G:Nat→Prop}
theorem Lr.nil (base:Nat)(w:World):Lr base w (.slice none 0 0) (.slice none 0 0) [] []:=⟨bG.nil _ _ _,fun c hc=>by simp at hc,Own.nil _ _ _ _⟩
theorem Lw.nil (base:Nat)(w:World):Lw base w [] (.slice none 0 0) (.slice none 0 0) []:=⟨Lr.nil _ _,rfl,trivial⟩
theorem Lr.ty {zs:List Int}(h:Lr base w vc ve rs zs):∀g,LB vc ve rs g→∃cs t,w.heap[g]? =some (.cells cs t (0,0))∧(t=32∨t=3∨t=106):=by
 rintro g (hb|hb|⟨c,hc,hb⟩)
 ·obtain⟨cs,e⟩:=h.row.type hb
  exact⟨_,_,e,.inl rfl⟩
 ·obtain⟨cs,e⟩:=h.en.type hb
  exact⟨_,_,e,.inr (.inl rfl)⟩
 ·obtain⟨cs,e⟩:=(h.gT c hc).type hb
  exact⟨_,_,e,.inr (.inr rfl)⟩
theorem Lr.lt {zs:List Int}(h:Lr base w vc ve rs zs):∀g,LB vc ve rs g→g<w.heap.size:=fun g hg=>by
 obtain⟨cs,t,e,_⟩:=h.ty g hg
 exact aA e
theorem Lr.ge {zs:List Int}(h:Lr base w vc ve rs zs):∀g,LB vc ve rs g→base≤g:=by
 rintro g (hb|hb|⟨c,hc,hb⟩)
 ·exact(World.ownsRow.lt h.row g hb).1
 ·exact(h.en.block g hb).1
 ·exact((h.gT c hc).block g hb).1
theorem Lr.agree {zs:List Int}(h:Lr base w vc ve rs zs)(ha:∀g,LB vc ve rs g→w'.heap[g]? =w.heap[g]?):Lr base w' vc ve rs zs:=
 ⟨dE h.row fun b hb=>ha b (.inl hb),fun c hc=>dE (h.gT c hc) fun b hb=>ha b (.inr (.inr ⟨c,hc,hb⟩)),h.en.agree fun b hb=>ha b (.inr (.inl hb))⟩
theorem Lr.below {zs:List Int}(h:Lr base w vc ve rs zs)(hb:Below w.heap.size w w'):Lr base w' vc ve rs zs:=h.agree fun g hg=>hb.block g (h.lt g hg)
theorem Lr.bz {zs:List Int}(h:Lr base w vc ve rs zs)(hb:base'≤base):Lr base' w vc ve rs zs:=
 ⟨kT h.row hb,fun c hc=>(h.gT c hc).bz hb,h.en.bz hb⟩
theorem Lr.ne {zs:List Int}(h:Lr base w vc ve rs zs){b:Nat}{cs:Array Value}{t:TypeId}{fr:Nat×Nat}(hb:w.heap[b]? =some (.cells cs t fr))(h1:t≠32)(h2:t≠3)(h3:t≠106):¬LB vc ve rs b:=by
 intro hg
 obtain⟨cs',t',e,ht⟩:=h.ty b hg
 rw[hb]at e
 simp only[Option.some.injEq,Obj.cells.injEq]at e
 obtain⟨_,e2,_⟩:=e
 subst e2
 rcases ht with e|e|e
 ·exact h1 e
 ·exact h2 e
 ·exact h3 e
theorem Lw.ty (h:Lw base w l vc ve rs):∀g,LB vc ve rs g→∃cs t,w.heap[g]? =some (.cells cs t (0,0))∧(t=32∨t=3∨t=106):=h.r.ty
theorem Lw.lt (h:Lw base w l vc ve rs):∀g,LB vc ve rs g→g<w.heap.size:=h.r.lt
theorem Lw.ge (h:Lw base w l vc ve rs):∀g,LB vc ve rs g→base≤g:=h.r.ge
theorem Lw.agree (h:Lw base w l vc ve rs)(ha:∀g,LB vc ve rs g→w'.heap[g]? =w.heap[g]?):Lw base w' l vc ve rs:=⟨h.r.agree ha,h.is,h.good⟩
theorem Lw.below (h:Lw base w l vc ve rs)(hb:Below w.heap.size w w'):Lw base w' l vc ve rs:=⟨h.r.below hb,h.is,h.good⟩
theorem Lw.bz (h:Lw base w l vc ve rs)(hb:base'≤base):Lw base' w l vc ve rs:=⟨h.r.bz hb,h.is,h.good⟩
theorem Lw.len (h:Lw base w l vc ve rs):rs.length=l.length:=by rw[←h.is,aD,List.length_map]
structure WkV (p q:Nat) (w:World) (l:List Cm.Cv) (bk:Bool) (vc ve:Value) (rs:List Cw):Prop where
 blk:w.heap[p]? =some (.cells #[.pointer (some ⟨q,0,none⟩),.bool bk,vc,ve] 154 (0,0))
 log:Lw 0 w l vc ve rs
def Wk (p q:Nat) (G:Nat→Prop) (w:World) (l:List Cm.Cv) (bk:Bool):Prop:=∃vc ve rs,WkV p q w l bk vc ve rs∧G=fun g=>g=p∨LB vc ve rs g
theorem WkV.ty {p q:Nat}{bk:Bool}(h:WkV p q w l bk vc ve rs):∀g,g=p∨LB vc ve rs g→∃cs t,w.heap[g]? =some (.cells cs t (0,0))∧(t=154∨t=32∨t=3∨t=106):=by
 rintro g (rfl|hg)
 ·exact⟨_,_,h.blk,.inl rfl⟩
 ·obtain⟨cs,t,e,ht⟩:=h.log.ty g hg
  exact⟨cs,t,e,.inr ht⟩
theorem Wk.ty {p q:Nat}{bk:Bool}(h:Wk p q G w l bk):∀g,G g→∃cs t,w.heap[g]? =some (.cells cs t (0,0))∧(t=154∨t=32∨t=3∨t=106):=by
 obtain⟨vc,ve,rs,h,rfl⟩:=h
 exact h.ty
theorem Wk.lt {p q:Nat}{bk:Bool}(h:Wk p q G w l bk):∀g,G g→g<w.heap.size:=fun g hg=>by
 obtain⟨cs,t,e,_⟩:=h.ty g hg
 exact aA e
theorem Wk.agree {p q:Nat}{bk:Bool}(h:Wk p q G w l bk)(ha:∀g,G g→w'.heap[g]? =w.heap[g]?):Wk p q G w' l bk:=by
 obtain⟨vc,ve,rs,h,rfl⟩:=h
 exact⟨vc,ve,rs,⟨(ha p (.inl rfl)).trans h.blk,h.log.agree fun g hg=>ha g (.inr hg)⟩,rfl⟩
theorem Wk.below {p q:Nat}{bk:Bool}(h:Wk p q G w l bk)(hb:Below w.heap.size w w'):Wk p q G w' l bk:=h.agree fun g hg=>hb.block g (h.lt g hg)
theorem Wk.out {p q:Nat}{bk:Bool}(h:Wk p q G w l bk)(ho:Out F w w')(hd:∀g,G g→¬F g):Wk p q G w' l bk:=h.agree fun g hg=>ho.block g (h.lt g hg) (hd g hg)
theorem Wk.good {p q:Nat}{bk:Bool}(h:Wk p q G w l bk):Cm.Good 0 0 l:=by
 obtain⟨vc,ve,rs,h,rfl⟩:=h
 exact h.log.good
theorem oC {p q q':Nat}{bk:Bool}{st:Dm.Ds}(h:Wk p q G w l bk)(k:Pk q' F w st):∀g,G g→¬F g:=by
 intro g hg hf
 obtain⟨cs,t,e,ht⟩:=h.ty g hg
 obtain⟨cs',t',fr,e',ht'⟩:=k.ty g hf
 rw[e]at e'
 simp only[Option.some.injEq,Obj.cells.injEq]at e'
 obtain⟨_,e2,_⟩:=e'
 subst e2
 rcases ht with rfl|rfl|rfl|rfl<;>rcases ht' with e|e|e<;>exact absurd e (by decide)
end
def WW (p q:Nat) (F:Nat→Prop) (w:World) (s:Wl.Ws):Prop:=∃F1 G1,Pk q F1 w s.d∧Wk p q G1 w s.l s.bk∧F=fun g=>F1 g∨G1 g
def ja (p q:Nat) (F:Nat→Prop) (w w':World) (s':Wl.Ws):Prop:=∃F',WW p q F' w' s'∧Out F w w'∧∀g,F' g→F g∨w.heap.size≤g
section
variable {p q:Nat} {F G:Nat→Prop} {w w' w1 w2:World} {s s':Wl.Ws} {st':Dm.Ds}
theorem WW.lt (h:WW p q F w s):∀g,F g→g<w.heap.size:=by
 obtain⟨F1,G1,h1,h2,rfl⟩:=h
 rintro g (hg|hg)
 ·exact h1.lt g hg
 ·exact h2.lt g hg
theorem WW.agree (h:WW p q F w s)(ha:∀g,F g→w'.heap[g]? =w.heap[g]?):WW p q F w' s:=by
 obtain⟨F1,G1,h1,h2,rfl⟩:=h
 exact⟨F1,G1,h1.agree fun g hg=>ha g (.inl hg),h2.agree fun g hg=>ha g (.inr hg),rfl⟩
theorem WW.below (h:WW p q F w s)(hb:Below w.heap.size w w'):WW p q F w' s:=h.agree fun g hg=>hb.block g (h.lt g hg)
theorem WW.good (h:WW p q F w s):Cm.Good 0 0 s.l:=by
 obtain⟨F1,G1,h1,h2,rfl⟩:=h
 exact h2.good
theorem ja.trans {F1:Nat→Prop}(ho:Out F w w1)(hs:∀g,F1 g→F g∨w.heap.size≤g)(k:ja p q F1 w1 w2 s'):ja p q F w w2 s':=by
 obtain⟨F2,h1,h2,h3⟩:=k
 refine⟨F2,h1,ho.trans h2 hs,fun g hg=>?_⟩
 rcases h3 g hg with h|h
 ·exact hs g h
 ·exact .inr (Nat.le_trans ho.size h)
theorem ja.pre (hb:Below w.heap.size w w1)(h:ja p q F w1 w2 s'):ja p q F w w2 s':=h.trans (Out.of_below hb) fun g hg=>.inl hg
theorem WW.disk {F1 G1:Nat→Prop}{l:List Cm.Cv}{bk:Bool}(h1:Pk q F1 w s.d)(h2:Wk p q G1 w l bk)(k:aP q F1 w w' st'):
  ∃F2,Pk q F2 w' st'∧Wk p q G1 w' l bk∧Out F1 w w'∧∀g,F2 g→F1 g∨w.heap.size≤g:=by
 obtain⟨F2,k1,k2,k3⟩:=k
 exact⟨F2,k1,h2.out k2 (oC h2 h1),k2,k3⟩
end
def adH (e n:Int) (l:List Bm.Ov):Prop:=In64 e∧In64 n∧fG l∧l.length≤8
theorem adm {e n:Int}{l:List Bm.Ov}(h:Cm.aJ e n l=0):adH e n l:=by
 obtain⟨h1,h2,h3,h4,h5⟩:=Cm.bu h
 exact⟨⟨by omega,by omega⟩,⟨by omega,by omega⟩,(rD h5).fit,(Bm.dM h5).2.1⟩
structure gL (b:Nat) (w:World) (vc:Value) (cs:List Cw):Prop where
 c:bG 32 b w vc cs
 o:fC b w cs
 i:∀c∈cs,In64 c.e∧In64 c.n
 ap:nH cs
 f:fF cs
theorem gL.nil (b:Nat)(w:World):gL b w (.slice none 0 0) []:=⟨bG.nil _ _ _,fun c hc=>by simp at hc,fun c hc=>by simp at hc,fun i j c d _ hc=>by simp at hc,fun c hc=>by simp at hc⟩
theorem gL.below {b:Nat}{w w':World}{vc:Value}{cs:List Cw}(h:gL b w vc cs)(hb:Below w.heap.size w w'):gL b w' vc cs:=⟨h.c.below hb,h.o.below hb,h.i,h.ap,h.f⟩
theorem gL.out {b:Nat}{w w':World}{vc:Value}{cs:List Cw}{F:Nat→Prop}(h:gL b w vc cs)(ho:Out F w w')(hF:∀i,F i→i<b):gL b w' vc cs:=by
 have k:∀(v:Value),(∀g,v.ownBlock=some g→b≤g∧g<w.heap.size)→∀g,v.ownBlock=some g→w'.heap[g]? =w.heap[g]? :=fun v hv g hg=>ho.block g (hv g hg).2 fun hf=>by have:=hF g hf;have:=(hv g hg).1;omega
 exact⟨dE h.c (k _ (World.ownsRow.lt h.c)),fun c hc=>dE (h.o c hc) (k _ (World.ownsRow.lt (h.o c hc))),h.i,h.ap,h.f⟩
theorem gL.bz {b b':Nat}{w:World}{vc:Value}{cs:List Cw}(h:gL b w vc cs)(hb:b'≤b):gL b' w vc cs:=⟨kT h.c hb,fun c hc=>kT (h.o c hc) hb,h.i,h.ap,h.f⟩
theorem gL.snoc {b:Nat}{w z4:World}{vc v4:Value}{cs:List Cw}{e n:Int}{vl:Value}{l:List Bm.Ov}{N:Nat}(h:gL b w vc cs)(kp:bK 32 w z4)(hc:bG 32 b z4 v4 (cs++[⟨e,n,vl,l⟩]))(ho:aV 106 N w vl l)(hN:b≤N)(hlt:∀d∈cs,∀g,d.v.ownBlock=some g→g<N)(hf:adH e n l):gL b z4 v4 (cs++[⟨e,n,vl,l⟩]):=by
 refine⟨hc,(h.o.gq kp).snoc ((ho.bz hN).gq kp (by decide)),fun c hcc=>?_,vH h.ap hlt (fun g hg=>(World.ownsRow.lt ho g hg).1),fun c hcc=>?_⟩
 ·rcases List.mem_append.1 hcc with hcc|hcc
  ·exact h.i c hcc
  ·rw[List.mem_singleton.1 hcc];exact⟨hf.1,hf.2.1⟩
 ·rcases List.mem_append.1 hcc with hcc|hcc
  ·exact h.f c hcc
  ·rw[List.mem_singleton.1 hcc];exact⟨hf.2.2.1,by have:=hf.2.2.2;show l.length*40≤_;omega⟩
theorem gL.push {b:Nat}{w w6:World}{v:Value}{cs:List Cw}(h:gL b w v cs)(hbw:b≤w.heap.size)(hb:Below w.heap.size w w6)(c:Cw)(hc:aV 106 w.heap.size w6 c.v c.l)(hf:adH c.e c.n c.l)(hl:cs.length≤2000000):
  ∃V,w6.alloc (.cells #[.int .i64 c.e,.int .i64 c.n,c.v] 32)=V∧Below w6.heap.size w6 V∧V.heap.size=w6.heap.size+1∧∀ty,∃v2 w2,(Builtin.append_ #[43,43] ty #[v,.slice (some ⟨w6.heap.size,0,none⟩) 1 1]).run Tryz.prog V=.ok v2 w2∧gL b w2 v2 (cs++[c])∧V.grownBy w2 v.ownBlock∧∃a n k,v2=.slice a n k:=by
 obtain⟨V,hV,fE,bn,iE⟩:=gN 32 w6 #[.int .i64 c.e,.int .i64 c.n,c.v] 1 [c] rfl rfl (by simp[maxLen])
 have tC:=hb.size
 have qb:Below w.heap.size w V:=hb.trans (bn.mono tC)
 refine⟨V,hV,bn,fE,fun ty=>?_⟩
 have hV':=h.below qb
 obtain⟨v2,w2,hr,bq,gJ,at2⟩:=jg (P:=Tryz.prog) (w:=V) 43 ty 32 b Tryz.underlying43 Tryz.uB v cs hV'.c _ [c] iE.row (fun d hd=>by rw[List.mem_singleton.1 hd];exact hc.is.one) (by simp;omega) (by omega)
 refine⟨v2,w2,hr,?_,gJ,?_⟩
 ·exact hV'.snoc (N:=w.heap.size) (bK.pI hV'.c gJ) bq (hc.below bn) hbw (fun d hd g hg=>(aV.block (h.o d hd) g hg).2) hf
 ·obtain⟨a1,k1,h1,_⟩:=bq.row.shape
  exact⟨a1,_,k1,h1⟩
structure Sw where
 e:Int
 f:Int
 v:Value
 rs:List Cw
def Sw.s (x:Sw):Orp.Se:=⟨x.e,x.f,aD x.rs⟩
def Sw.c (x:Sw):Cw:=⟨x.e,x.f,x.v,[]⟩
def jS (l:List Sw):List Orp.Se:=l.map Sw.s
def swc (l:List Sw):List Cw:=l.map Sw.c
def aoD (w:World) (v:Value) (l:List Sw):Prop:=dZ w v (swc l)∧∀x∈l,fJ w x.v x.rs∧In64 x.e∧In64 x.f
def asT (l:List Sw):Prop:=∀x∈l,fF x.rs∧x.rs.length*40≤140737488351232
theorem ai9 (l:List Sw):(swc l).length=l.length:=by unfold swc;rw[List.length_map]
theorem au3 (l:List Sw):(jS l).length=l.length:=by unfold jS;rw[List.length_map]
theorem aoD.shape {w:World}{v:Value}{l:List Sw}(h:aoD w v l):∃ao cap,v=.slice ao l.length cap∧l.length≤cap∧cap≤maxLen:=by
 have:=h.1.shape
 rwa[ai9]at this
theorem atS {rs:List Cw}{k:Nat}{c:Cw}(h:rs[k]? =some c):(aD rs)[k]? =some c.c:=by
 unfold aD
 rw[List.getElem?_map,h]
 rfl
theorem ji (rs:List Cw):(aD rs).length=rs.length:=by unfold aD;rw[List.length_map]
theorem aqj {rs:List Cw}{k:Nat}{c:Cw}(h:rs[k]? =some c)(hk:k+1=rs.length)(ep:Int):Cm.lastE ep (aD rs)=c.e:=by
 have h1:=atS h
 obtain⟨hlt,e⟩:=List.getElem?_eq_some_iff.1 h1
 have h2:aD rs=(aD rs).take k++[c.c]:=by
  have:(aD rs).take (k+1)=aD rs:=List.take_of_length_le (by rw[ji];omega)
  rw[←this,List.take_succ_eq_append_getElem hlt,e,List.take_append_of_le_length (by rw[List.length_take];omega),List.take_take,Nat.min_self]
 rw[h2,(Cm.dX _ _ _ 0).1]
 rfl
end Go.Proofs.YtpifdeoepppadaaGreatDoor
