/- Texts of one layer, one behind the other. -/
import Derived.Test.YtmngcecomcadkaaGreatDoorCH2
import Derived.Laws.BytesArg
import Derived.Test.YtmngcecomcadkaaGreatDoorCH3
import Derived.Test.YtmngcecomcadkaaGreatDoorCH4
import Derived.Test.YtmngcecomcadkaaGreatDoorCH5
import Derived.Test.YtmngcecomcadkaaGreatDoorCH1
import Derived.Test.YtmngcecomcadkaaGreatDoorCH6
import Derived.Test.YtmngcecomcadkaaGreatDoorCH8
import Derived.Test.YtmngcecomcadkaaGreatDoorCG2
import Derived.Test.YtmngcecomcadkaaGreatDoorCH11
import Derived.WalkMore
set_option maxRecDepth 100000
set_option maxHeartbeats 8000000
namespace Go.Proofs.YtmngcecomcadkaaGreatDoor
open Go.RowKit
set_option linter.unusedVariables false
theorem Is.conv {w:World}{v:Value}{zs:List Int}(h:Is .u8 w v zs){P:Program}{src e dst:TypeId}(hs:P.underlying src=some (.slice e))(he:P.underlying e=some (.int .u8))(hd:P.underlying dst=some .string):
  (convert src dst v).run P w=.ok (.string ⟨(Om.iH zs).toArray⟩) w:=by
 by_cases hz:0<zs.length
 ·obtain⟨b,o,c,rfl,_,_,_,hc⟩:=h.full hz
  exact run_convert_bytes_arg w src e hs he b o zs.length c zs rfl hc dst hd
 ·have:zs=[]:=List.eq_nil_of_length_eq_zero (by omega)
  subst this
  obtain⟨ao,c,rfl⟩:=h.bare
  cases ao with
  |none=>exact run_convert_bytes_nil w src e hs he 0 c dst hd
  |some ad=>
   rw[run_convert_bytes_string w src dst e _ 0 c hs he hd,run_bytesToString w ad 0 c [] (by have:=run_loadCells_list (P:=P) w ad [] (by simp);simpa using this)]
   rfl
theorem Is.bytes {w:World}{v:Value}{zs:List Int}(h:Is .u8 w v zs):∀z∈zs,0≤z∧z<256:=by
 intro z hz
 obtain⟨i,hi,rfl⟩:=List.getElem_of_mem hz
 have:=h.byte i
 simpa[List.getD,hi]using this
set_option maxRecDepth 100000
theorem ad9 (z:Int)(h0:-9223372036854775808≤z)(h1:z<9223372036854775808):IntKind.i64.wrap z=z:=by
 unfold IntKind.wrap
 simp[IntKind.bits,IntKind.signed]
 omega
def ei (bad:Bool):Int:=if bad then 5 else 0
def fG (w0 w:World) (g:Nat) (vb:Value) (bs:List Int) (a:Nat) (bad:Bool):Prop:=
 Is .u8 w0 vb bs∧w0.heap.size≤g∧Below w0.heap.size w0 w∧w.heap[g]? =some (.cells #[vb,.int .i64 a,.int .i64 (ei bad)] 266 (0,0))∧a≤bs.length
section
variable {w0 w w':World} {g a:Nat} {vb:Value} {bs:List Int} {bad:Bool}
theorem fG.lt (h:fG w0 w g vb bs a bad):g<w.heap.size:=ax h.2.2.2.1
theorem fG.is (h:fG w0 w g vb bs a bad):Is .u8 w vb bs:=h.1.below h.2.2.1
theorem fG.below (h:fG w0 w g vb bs a bad)(hb:Below w.heap.size w w'):fG w0 w' g vb bs a bad:=
 ⟨h.1,h.2.1,h.2.2.1.trans (hb.mono h.2.2.1.size),(hb.block g h.lt).trans h.2.2.2.1,h.2.2.2.2⟩
theorem fG.grown (h:fG w0 w g vb bs a bad){row:Nat}(hb:w.grownBy w' (some row))(hr:w0.heap.size≤row)(hne:row≠g):fG w0 w' g vb bs a bad:=
 ⟨h.1,h.2.1,h.2.2.1.grown hb h.2.2.1.size (fun k hk=>by simp at hk;omega),(hb.block g h.lt (by simp;omega)).trans h.2.2.2.1,h.2.2.2.2⟩
theorem fG.cell0 (h:fG w0 w g vb bs a bad):w.cell? ⟨g,0,none⟩=some vb:=ai h.2.2.2.1 0 rfl
theorem fG.cell1 (h:fG w0 w g vb bs a bad):w.cell? ⟨g,1,none⟩=some (.int .i64 a):=ai h.2.2.2.1 1 rfl
theorem fG.adw (h:fG w0 w g vb bs a bad):w.cell? ⟨g,2,none⟩=some (.int .i64 (ei bad)):=ai h.2.2.2.1 2 rfl
theorem fG.good (h:fG w0 w g vb bs a false):w.cell? ⟨g,2,none⟩=some (.int .i64 0):=h.adw
theorem fG.ajd (h:fG w0 w g vb bs a true):w.cell? ⟨g,2,none⟩=some (.int .i64 5):=h.adw
theorem fG.lu (h:fG w0 w g vb bs a bad)(j:Nat):w.frozen? ⟨g,j,none⟩=false:=aA h.2.2.2.1 j
theorem fG.aoJ (h:fG w0 w g vb bs a bad)(a':Nat)(ha:a'≤bs.length):fG w0 (w.setCell ⟨g,1,none⟩ (.int .i64 a')) g vb bs a' bad:=
 ⟨h.1,h.2.1,h.2.2.1.setCell (p:=⟨g,1,none⟩) h.2.1 _,by rw[aH h.2.2.2.1];rfl,ha⟩
theorem fG.aiu (h:fG w0 w g vb bs a bad)(bad':Bool):fG w0 (w.setCell ⟨g,2,none⟩ (.int .i64 (ei bad'))) g vb bs a bad':=
 ⟨h.1,h.2.1,h.2.2.1.setCell (p:=⟨g,2,none⟩) h.2.1 _,by rw[aH h.2.2.2.1];rfl,h.2.2.2.2⟩
end
theorem ahx (vb:Value)(bs:List Int)(most u i g:Int)(w:World)(hb:Is .u8 w vb bs)(hl:bs.length≤140737488355328)(hm:most<9223372036854775808)(hm':-9223372036854775808≤most)(hS:zK bs most u i g):
  Calls Tryz.prog 133 #[vb,.int .i64 most] w fun E w'=>E=.returned (.tuple #[.int .i64 u,.int .i64 i,.int .i64 g])∧∃m,w'=w.drewN m:=
 (jZ vb bs most u i g w hb (by omega) hm hm' hS).mono (by rintro E w' ⟨rfl,rfl⟩;exact⟨rfl,0,rfl⟩)
theorem qi (w0 w:World)(g:Nat)(vb:Value)(bs:List Int)(a:Nat)(bad:Bool)(most:Nat)(h:fG w0 w g vb bs a bad)(hl:bs.length≤140737488355328)(hm:most<9223372036854775808):
  Calls Tryz.prog 227 #[.pointer (some ⟨g,0,none⟩),.int .i64 most] w fun E w'=>∃(u a':Nat) (bad':Bool),E=.returned (.int .i64 u)∧fG w0 w' g vb bs a' bad'∧w.grownBy w' (some g)∧Bm.SS bs most a bad u a' bad':=by
 have c0:=h.cell0
 have c1:=h.cell1
 have f1:=h.lu 1
 have f2:=h.lu 2
 have ha:=h.2.2.2.2
 cases bad
 ·have c2:=h.good
  obtain⟨vs,hsl,eQ⟩:=h.is.gq Tryz.kW Tryz.mG a ha
  obtain⟨u,i,e,hS⟩:=nD (bs.drop a) most
  have hdl:(bs.drop a).length=bs.length-a:=by rw[List.length_drop]
  rcases hS with⟨hR,h1,h2,he⟩|⟨hu,hi,he,x,n,f,hR,hcase⟩
  ·have hbd:=Vm.mU hR
   obtain⟨un,rfl⟩:∃un:Nat,u=un:=⟨u.toNat,by omega⟩
   obtain⟨n,rfl⟩:∃n:Nat,i=n:=⟨i.toNat,by omega⟩
   have hG:Bm.SS bs most a false un (a+n) false:=by
    rcases hR with⟨x,hx,hp,h3,h4,_⟩|⟨_,_,_,h5⟩
    ·have:x=un:=by omega
     subst this
     exact .inr (.inr ⟨rfl,rfl,by omega,hp,by omega⟩)
    ·simp at h5
   have hS:zK (bs.drop a) most un n 0:=.inl ⟨hR,h1,h2,rfl⟩
   have HG:=hide hG
   have HS:=hide hS
   have HH:=hide h
   have hn1:a+n≤bs.length:=by omega
   have hn2:n≤10:=by omega
   clear hS hG hR hbd h he h1 h2
   go_enter Tryz.func227,Tryz.ntmps227
   go_wp2_with fail
   go_quiet ((go_at_call 133;refine Calls.quiet_of (ahx _ (bs.drop a) most un n 0 _ (eQ.drewN _) (by omega) (by omega) (by omega) HS.out)))
   have r1:=HH.out.below (below_drewN (Below.refl _ _) nq)
   have R3:=hide ((r1.aoJ (a+n) hn1).aiu false)
   clear r1 eQ hsl
   go_wp2
   go_ret
   exact⟨un,a+n,false,rfl,R3.out,aG (aG (iT _ _ _) (az _ _ _)) (az _ _ _),HG.out⟩
  ·have hG:Bm.SS bs most a false 0 a true:=by
    refine .inr (.inl ⟨rfl,rfl,rfl,rfl,fun y hy hp=>?_⟩)
    have:=Vm.uU hR (u:=y) (by omega) hp
    omega
   have hS:zK (bs.drop a) most 0 0 5:=.inr ⟨rfl,rfl,rfl,x,n,f,hR,hcase⟩
   have HG:=hide hG
   have HS:=hide hS
   have HH:=hide h
   clear hS hG hR h he hcase hu hi
   go_enter Tryz.func227,Tryz.ntmps227
   go_wp2_with fail
   go_quiet ((go_at_call 133;refine Calls.quiet_of (ahx _ (bs.drop a) most 0 0 5 _ (eQ.drewN _) (by omega) (by omega) (by omega) HS.out)))
   have r1:=HH.out.below (below_drewN (Below.refl _ _) nq)
   have R3:=hide ((r1.aoJ a ha).aiu true)
   clear r1 eQ hsl
   go_wp2
   go_ret
   exact⟨0,a,true,rfl,R3.out,aG (aG (iT _ _ _) (az _ _ _)) (az _ _ _),HG.out⟩
 ·have c2:=h.ajd
  have HH:=hide h
  clear h
  go_enter Tryz.func227,Tryz.ntmps227
  go_wp2
  go_ret
  exact⟨0,a,true,rfl,HH.out,World.grownBy.refl _ _,.inl ⟨rfl,rfl,rfl,rfl⟩⟩
theorem acx (w0 w:World)(g:Nat)(vb:Value)(bs:List Int)(a:Nat)(bad:Bool)(n:Nat)(h:fG w0 w g vb bs a bad)(hl:bs.length≤140737488355328)(hm:n<4611686018427387904):
  Calls Tryz.prog 239 #[.pointer (some ⟨g,0,none⟩),.int .i64 n] w fun E w'=>∃(s:ByteArray) (zs:List Int) (a':Nat) (bad':Bool),E=.returned (.string s)∧s.data.toList=Om.iH zs∧fG w0 w' g vb bs a' bad'∧w.grownBy w' (some g)∧Bm.BS bs n a bad zs a' bad':=by
 have c0:=h.cell0
 have c1:=h.cell1
 have f1:=h.lu 1
 have f2:=h.lu 2
 have ha:=h.2.2.2.2
 have hlen:=h.is.ag1 Tryz.kW
 cases bad
 ·have c2:=h.good
  by_cases hn:n≤bs.length-a
  ·obtain⟨vs,hsl,eQ⟩:=h.is.uO Tryz.kW Tryz.mG a (a+n) (by omega) (by omega)
   rw[show a+n-a=n by omega]at eQ
   have hsl2:∀wx,(Instr.slice 61 vb (some (.int .i64 (a:Int))) (some (.int .i64 ((a:Int)+(n:Int)))) none).run Tryz.prog wx=.ok vs wx:=by simpa using hsl
   have hwr:IntKind.i64.wrap ((a:Int)+(n:Int))=(a:Int)+n:=ad9 _ (by omega) (by omega)
   have aqi:=fun m=>(eQ.drewN m).conv Tryz.underlying61 Tryz.underlying5 Tryz.underlying9
   clear hsl
   have hge:¬(bs.length:Int)-a<n:=by omega
   have HH:=hide h
   clear h
   go_enter Tryz.func239,Tryz.ntmps239
   go_wp2_with fail
   go_quiet (fail)
   go_wp2_with fail
   generalize nq=n1
   have auU:=fun m=>aqi (n1+m)
   go_quiet (fail)
   have r1:=HH.out.below (below_drewN (Below.refl _ _) (n1+nq))
   have k1:=r1.cell1
   have g1:=r1.lu 1
   have R1:=hide r1
   clear r1 aqi auU eQ hsl2
   go_wp2
   go_ret
   exact⟨_,(bs.drop a).take n,a+n,false,rfl,by simp,R1.out.aoJ (a+n) (by omega),aG (iT _ _ _) (az _ _ _),.inr ⟨rfl,hn,rfl,rfl,rfl⟩⟩
  ·have hge:(bs.length:Int)-a<n:=by omega
   have HH:=hide h
   clear h
   go_enter Tryz.func239,Tryz.ntmps239
   go_wp2_with fail
   go_quiet (fail)
   go_wp2
   go_ret
   exact⟨_,[],a,true,rfl,rfl,(HH.out.below (below_drewN (Below.refl _ _) nq)).aiu true,aG (iT _ _ _) (az _ _ _),.inl ⟨.inr (by omega),rfl,rfl,rfl⟩⟩
 ·have c2:=h.ajd
  have HH:=hide h
  clear h
  go_enter Tryz.func239,Tryz.ntmps239
  go_wp2
  go_ret
  exact⟨_,[],a,true,rfl,rfl,HH.out,World.grownBy.refl _ _,.inl ⟨.inl rfl,rfl,rfl,rfl⟩⟩
theorem Tryz.ajQ:∀args w,(callFunc 239 args).run Tryz.prog w=.ok (.enter 239 args) w:=enters_of Tryz.func239 (by kernel_rfl) rfl
theorem amI {bs zs:List Int}{n sh a a':Nat}{bad bad':Bool}{s:ByteArray}(hs:s.data.toList=Om.iH zs)(h:Bm.BS bs n a bad zs a' bad')(hn:n≤16-sh)(hsh:sh≤16):¬9223372036854775807<sh+s.size:=by
 have:=Bm.adY h
 have e:=congrArg List.length hs
 rw[Om.jS,←Lib.size_eq]at e
 omega
theorem aeq (w0 w:World)(g:Nat)(vb:Value)(bs:List Int)(a:Nat)(bad:Bool)(ah:ByteArray)(h:fG w0 w g vb bs a bad)(hl:bs.length≤140737488355328)(hah:ah.size≤16):
  Calls Tryz.prog 238 #[.pointer (some ⟨g,0,none⟩),.string ah] w fun E w'=>∃(k:ByteArray) (a':Nat) (bad':Bool),E=.returned (.string k)∧fG w0 w' g vb bs a' bad'∧w.grownBy w' (some g)∧Bm.KS bs a bad ah.data.toList k.data.toList a' bad':=by
 have hal:ah.data.toList.length=ah.size:=(Lib.size_eq ah).symm
 go_enter Tryz.func238,Tryz.ntmps238
 go_wp2_with fail
 refine(qi w0 w g vb bs a bad ah.size h hl (by omega)).mono ?_
 rintro E w1 ⟨sh,a1,iU,rfl,r1,sZ,s1⟩
 have hsh:=Bm.ui s1
 have hsub:(16:Int)-sh=((16-sh:Nat):Int):=by omega
 have S1:=hide s1
 clear s1 h
 go_wp2_with fail
 refine(qi w0 w1 g vb bs a1 iU (16-sh) r1 hl (by omega)).mono ?_
 rintro E w2 ⟨n,a2,jB,rfl,r2,gT,s2⟩
 have hn:=Bm.ui s2
 have S2:=hide s2
 have R2:=hide r2
 clear s2 r1 r2
 have X:Hid (∀m,Calls Tryz.prog 239 #[.pointer (some ⟨g,0,none⟩),.int .i64 n] (w2.drewN m) fun E w'=>∃v,E=.returned v∧∃(s:ByteArray) (zs:List Int) (a':Nat) (bad':Bool),v=.string s∧s.data.toList=Om.iH zs∧fG w0 w' g vb bs a' bad'∧(w2.drewN m).grownBy w' (some g)∧Bm.BS bs n a2 jB zs a' bad'):=
  hide fun m=>(acx w0 (w2.drewN m) g vb bs a2 jB n (R2.out.below (below_drewN (Below.refl _ _) m)) hl (by omega)).mono (by rintro E w' ⟨s,zs,a',bad',rfl,h⟩;exact⟨_,rfl,s,zs,a',bad',rfl,h⟩)
 go_wp2_with fail
 go_region_law (refine xC rfl 239 #[.tmp 19,.tmp 20] #[274,3] rfl Tryz.ajQ #[.pointer (some ⟨g,0,none⟩),.int .i64 n] (by simp[Act.eval,Act.put]) (X.out _) ?_;rintro vv w3 ⟨s,zs,a3,qp,rfl,hs,r3,yY,s3⟩;have hss:=amI hs s3 hn (by omega))
 all_goals
  have hsz:s.size≤16:=by
   have:=Bm.adY s3
   have e:=congrArg List.length hs
   rw[Om.jS,←Lib.size_eq]at e
   omega
  have hdat:(ah.extract 0 sh++s).data.toList=ah.data.toList.take sh++Om.iH zs:=by rw[←hs];simp
  have hksz:(ah.extract 0 sh++s).size≤32:=by rw[Lib.size_eq,hdat,List.length_append,←hs,←Lib.size_eq,List.length_take];omega
  have gr:w.grownBy w3 (some g):=aG sZ (aG gT (aG (iT _ 1 _) yY))
  generalize ah.extract 0 sh++s=K at*
  rw[←hal]at S1
  have HK:∀bad',bad'=(qp||decide (Bm.com ah.data.toList K.data.toList≠sh))→Bm.KS bs a bad ah.data.toList K.data.toList a3 bad':=fun bad' e=>⟨sh,n,zs,a1,iU,a2,jB,qp,S1.out,S2.out,s3,hdat,e⟩
  have HK:=hide HK
  clear hdat hs s3 sZ gT yY X hss
  have f2:=r3.lu 2
  cases qp
  ·have c2:=r3.good
   have R3:=hide r3
   clear r3
   go_wp2_with fail
   refine(uR ah K _ (by omega) (by omega)).mono ?_
   rintro E w4 ⟨rfl,aK⟩
   have r4:=R3.out.below aK
   have f4:=r4.lu 2
   have d2:=r4.good
   have R4:=hide r4
   have vL:w.grownBy w4 (some g):=aG gr (kE aK _)
   clear r4 R3 aK gr c2 f2
   by_cases hc:Bm.com ah.data.toList K.data.toList=sh
   ·have hb:((Bm.com ah.data.toList K.data.toList:Int) !=(sh:Int))=false:=by rw[hc];simp
    have HK2:=hide (HK.out false (by simp[hc]))
    clear hc
    go_wp2
    go_ret
    exact⟨K,a3,false,rfl,R4.out,vL,HK2.out⟩
   ·have hb:((Bm.com ah.data.toList K.data.toList:Int) !=(sh:Int))=true:=by simp;omega
    have HK2:=hide (HK.out true (by simp[hc]))
    clear hc
    go_wp2
    go_ret
    exact⟨K,a3,true,rfl,R4.out.aiu true,aG vL (az _ _ _),HK2.out⟩
  ·have c2:=r3.ajd
   have R3:=hide r3
   clear r3
   go_wp2
   go_ret
   exact⟨K,a3,true,rfl,R3.out,gr,HK.out true (by simp)⟩
theorem arC (w0 w:World)(g:Nat)(vb:Value)(bs:List Int)(a:Nat)(bad:Bool)(ah:ByteArray)(h:fG w0 w g vb bs a bad)(hl:bs.length≤140737488355328)(hah:ah.size≤16):
  Calls Tryz.prog 228 #[.pointer (some ⟨g,0,none⟩),.string ah] w fun E w'=>∃(o:Bm.Ov) (a':Nat) (bad':Bool),E=.returned (xA o.p o.k o.v)∧fG w0 w' g vb bs a' bad'∧w.grownBy w' (some g)∧Bm.OS bs a bad ah.data.toList o a' bad'∧o.k.size≤16∧o.v.size≤32:=by
 unfold xA
 have hby:=h.is.bytes
 have hg:=h.lt
 have hw0:=h.2.2.1.size
 obtain⟨W,hW,szW,uz,auk⟩:=ak w #[.bool false,.string ⟨#[]⟩,.string ⟨#[]⟩] 111
 have r0:=h.below uz
 have grW:=kE uz (some g)
 have HBY:=hide hby
 clear h hby
 go_enter Tryz.func228,Tryz.ntmps228
 go_wp2_with fail
 refine(qi w0 W g vb bs a bad 1 r0 hl (by omega)).mono ?_
 rintro E w1 ⟨mark,a1,iU,rfl,r1,sZ,s1⟩
 have aT:=sZ.size
 have adL:=(sZ.block w.heap.size (by omega) (by simp;omega)).trans auk
 have hmark:=Bm.ui s1
 have grA:w.grownBy w1 (some g):=aG grW sZ
 clear r0 grW sZ auk uz hW
 rcases(show mark=0∨mark=1 by omega)with rfl|rfl
 ·have S1:=hide s1
  clear s1
  go_wp2_with fail
  refine(aeq w0 w1 g vb bs a1 iU ah r1 hl hah).mono ?_
  rintro E w2 ⟨k,a2,jB,rfl,r2,gT,ks⟩
  have dz:=gT.size
  have aaY:=(gT.block w.heap.size (by omega) (by simp;omega)).trans adL
  obtain⟨W3,hW3,cB,aD,iK⟩:=ak w2 #[.bool false,.string k,.string ⟨#[]⟩] 111
  have O0:=aA iK 0
  have O1:=aA iK 1
  have O2:=aA iK 2
  have x0:W3.setCell ⟨w2.heap.size,0,none⟩ (.bool false)=W3:=aJ iK (j:=0) rfl
  have x1:W3.setCell ⟨w2.heap.size,1,none⟩ (.string k)=W3:=aJ iK (j:=1) rfl
  have x2:W3.setCell ⟨w2.heap.size,2,none⟩ (.string ⟨#[]⟩)=W3:=aJ iK (j:=2) rfl
  have r3:=r2.below aD
  have mI:=(aD.block w.heap.size (by omega)).trans aaY
  have o0:W3.cell? ⟨w2.heap.size,0,none⟩=some (.bool false):=ai iK 0 rfl
  have o1:W3.cell? ⟨w2.heap.size,1,none⟩=some (.string k):=ai iK 1 rfl
  have o2:W3.cell? ⟨w2.heap.size,2,none⟩=some (.string ⟨#[]⟩):=ai iK 2 rfl
  have R0:W3.cell? ⟨w.heap.size,0,none⟩=some (.bool false):=ai mI 0 rfl
  have R1:W3.cell? ⟨w.heap.size,1,none⟩=some (.string ⟨#[]⟩):=ai mI 1 rfl
  have R2:W3.cell? ⟨w.heap.size,2,none⟩=some (.string ⟨#[]⟩):=ai mI 2 rfl
  have F0:=aA mI 0
  have F1:=aA mI 1
  have F2:=aA mI 2
  obtain⟨V',hV',dN,cZ⟩:=ant mI (.bool false) (.string k) (.string ⟨#[]⟩)
  have k0:V'.cell? ⟨w.heap.size,0,none⟩=some (.bool false):=ai dN 0 rfl
  have k1:V'.cell? ⟨w.heap.size,1,none⟩=some (.string k):=ai dN 1 rfl
  have k2:V'.cell? ⟨w.heap.size,2,none⟩=some (.string ⟨#[]⟩):=ai dN 2 rfl
  have fA:w.grownBy V' (some g):=grown_fresh (aG (aG grA gT) (kE aD _)) cZ (Nat.le_refl _)
  have rV:fG w0 V' g vb bs a2 jB:=r3.grown cZ hw0 (by omega)
  have hOS:Bm.OS bs a bad ah.data.toList ⟨false,k,⟨#[]⟩⟩ a2 jB:=Bm.avn HBY.out S1.out ks rfl rfl rfl
  have hkl:=Bm.akV ks (by rw[←Lib.size_eq];exact hah)
  rw[←Lib.size_eq]at hkl
  have RV:=hide rV
  have OS:=hide hOS
  clear ks r1 r2 r3 adL aaY mI iK dN cZ rV hOS grA gT aD
  go_wp2
  refine bodyPost_ret (v:=.agg #[.bool false,.string k,.string ⟨#[]⟩]) (by simp[results,Tryz.results228,go_sem,k0,k1,k2]) rfl ?_
  exact⟨⟨false,k,⟨#[]⟩⟩,a2,jB,rfl,RV.out,fA,OS.out,hkl,by simp[ByteArray.size]⟩
 ·have S1:=hide s1
  clear s1
  go_wp2_with fail
  refine(aeq w0 w1 g vb bs a1 iU ah r1 hl hah).mono ?_
  rintro E w2 ⟨k,a2,jB,rfl,r2,gT,ks⟩
  have dz:=gT.size
  have aaY:=(gT.block w.heap.size (by omega) (by simp;omega)).trans adL
  obtain⟨W3,hW3,cB,aD,iK⟩:=ak w2 #[.bool true,.string k,.string ⟨#[]⟩] 111
  have O0:=aA iK 0
  have O1:=aA iK 1
  have O2:=aA iK 2
  have x0:W3.setCell ⟨w2.heap.size,0,none⟩ (.bool true)=W3:=aJ iK (j:=0) rfl
  have x1:W3.setCell ⟨w2.heap.size,1,none⟩ (.string k)=W3:=aJ iK (j:=1) rfl
  have x2:W3.setCell ⟨w2.heap.size,2,none⟩ (.string ⟨#[]⟩)=W3:=aJ iK (j:=2) rfl
  have r3:=r2.below aD
  have mI:=(aD.block w.heap.size (by omega)).trans aaY
  have o0:W3.cell? ⟨w2.heap.size,0,none⟩=some (.bool true):=ai iK 0 rfl
  have o1:W3.cell? ⟨w2.heap.size,1,none⟩=some (.string k):=ai iK 1 rfl
  have o2:W3.cell? ⟨w2.heap.size,2,none⟩=some (.string ⟨#[]⟩):=ai iK 2 rfl
  have fA:w.grownBy W3 (some g):=aG (aG grA gT) (kE aD _)
  have hkl:=Bm.akV ks (by rw[←Lib.size_eq];exact hah)
  rw[←Lib.size_eq]at hkl
  have KS:=hide ks
  clear ks r1 r2 grA gT aD adL aaY
  go_wp2_with fail
  refine(qi w0 W3 g vb bs a2 jB 32 r3 hl (by omega)).mono ?_
  rintro E w4 ⟨n,a4,jo,rfl,r4,vL,s4⟩
  have hn:=Bm.ui s4
  have lZ:=vL.size
  have ap0:=(vL.block w.heap.size (by omega) (by simp;omega)).trans mI
  have aqA:=(vL.block w2.heap.size (by omega) (by simp;omega)).trans iK
  have S4:=hide s4
  clear s4
  go_wp2_with fail
  refine(acx w0 w4 g vb bs a4 jo n r4 hl (by omega)).mono ?_
  rintro E w5 ⟨s,ys,a5,uL,rfl,hs,r5,gr5,s5⟩
  have tQ:=gr5.size
  have aqZ:=(gr5.block w.heap.size (by omega) (by simp;omega)).trans ap0
  have adx:=(gr5.block w2.heap.size (by omega) (by simp;omega)).trans aqA
  have p2:w5.cell? ⟨w2.heap.size,2,none⟩=some (.string ⟨#[]⟩):=ai adx 2 rfl
  have q2:=aA adx 2
  obtain⟨W6,hW6⟩:∃W6,w5.setCell ⟨w2.heap.size,2,none⟩ (.string s)=W6:=⟨_,rfl⟩
  have adW:W6.heap[w2.heap.size]? =some (.cells #[.bool true,.string k,.string s] 111 (0,0)):=by rw[←hW6];exact aH adx 2 (.string s)
  have xD:w5.grownBy W6 (some w2.heap.size):=by rw[←hW6];exact az w5 ⟨w2.heap.size,2,none⟩ _
  have mY:=xD.size
  have rC:=(xD.block w.heap.size (by omega) (by simp;omega)).trans aqZ
  have r6:=r5.grown xD (by omega) (by omega)
  have o0:W6.cell? ⟨w2.heap.size,0,none⟩=some (.bool true):=ai adW 0 rfl
  have o1:W6.cell? ⟨w2.heap.size,1,none⟩=some (.string k):=ai adW 1 rfl
  have o2:W6.cell? ⟨w2.heap.size,2,none⟩=some (.string s):=ai adW 2 rfl
  have R0:W6.cell? ⟨w.heap.size,0,none⟩=some (.bool false):=ai rC 0 rfl
  have R1:W6.cell? ⟨w.heap.size,1,none⟩=some (.string ⟨#[]⟩):=ai rC 1 rfl
  have R2:W6.cell? ⟨w.heap.size,2,none⟩=some (.string ⟨#[]⟩):=ai rC 2 rfl
  have F0:=aA rC 0
  have F1:=aA rC 1
  have F2:=aA rC 2
  obtain⟨V',hV',dN,cZ⟩:=ant rC (.bool true) (.string k) (.string s)
  have k0:V'.cell? ⟨w.heap.size,0,none⟩=some (.bool true):=ai dN 0 rfl
  have k1:V'.cell? ⟨w.heap.size,1,none⟩=some (.string k):=ai dN 1 rfl
  have k2:V'.cell? ⟨w.heap.size,2,none⟩=some (.string s):=ai dN 2 rfl
  have grC:w.grownBy V' (some g):=grown_fresh (grown_fresh (aG (aG fA vL) gr5) xD (by omega)) cZ (Nat.le_refl _)
  have rV:fG w0 V' g vb bs a5 uL:=r6.grown cZ hw0 (by omega)
  have hOS:Bm.OS bs a bad ah.data.toList ⟨true,k,s⟩ a5 uL:=Bm.aw6 HBY.out S1.out KS.out rfl rfl hs S4.out s5
  have hsl:s.size≤32:=by
   have:=Bm.adY s5
   have e:=congrArg List.length hs
   rw[Om.jS,←Lib.size_eq]at e
   omega
  have RV:=hide rV
  have OS:=hide hOS
  clear hs s5 r4 r5 r6 rV hOS mI ap0 aqZ rC iK aqA adx adW dN cZ fA vL gr5 xD
  go_wp2
  refine bodyPost_ret (v:=.agg #[.bool true,.string k,.string s]) (by simp[results,Tryz.results228,go_sem,k0,k1,k2]) rfl ?_
  exact⟨⟨true,k,s⟩,a5,uL,rfl,RV.out,grC,OS.out,hkl,hsl⟩
def qC (l:List Bm.Ov):Prop:=∀o∈l,o.k.size≤16∧o.v.size≤32
theorem qC.fit {l:List Bm.Ov}(h:qC l):iL l:=fun o ho=>by have:=h o ho;omega
theorem qC.snoc {l:List Bm.Ov}{o:Bm.Ov}(h:qC l)(h1:o.k.size≤16)(h2:o.v.size≤32):qC (l++[o]):=by
 intro x hx
 rcases List.mem_append.1 hx with hx|hx
 ·exact h x hx
 ·rw[List.mem_singleton.1 hx];exact⟨h1,h2⟩
theorem nE {l:List Bm.Ov}(h:Bm.dY l=0):qC l:=by
 intro o ho
 have:=Om.jf ((Bm.dO h).2.2 o ho)
 simp only[Bm.Ov.kl,Bm.Ov.vl,←Lib.size_eq]at this
 omega
theorem akW (vb:Value)(bs:List Int)(w:World)(hb:Is .u8 w vb bs)(hl:bs.length≤140737488355328):
  Calls Tryz.prog 204 #[vb] w fun E w'=>∃(vl:Value) (l:List Bm.Ov) (n e:Int),E=.returned (.tuple #[vl,.int .i64 n,.int .i64 e])∧bg 111 w.heap.size w' vl l∧Bm.amQ bs l n e∧Below w.heap.size w w':=by
 obtain⟨i0,hi,hz0,hz1,hz2⟩:=info_parts Tryz.ab8
 obtain⟨ao,cap,rfl,_,_⟩:=hb.shape
 obtain⟨W1,hW1,aT,aj,qK⟩:=ak w #[.slice ao bs.length cap,.int .i64 0,.int .i64 0] 266
 have r1:fG w W1 w.heap.size (.slice ao bs.length cap) bs 0 false:=⟨hb,by omega,aj,qK,by omega⟩
 have c0:W1.cell? ⟨w.heap.size,0,none⟩=some (.slice ao bs.length cap):=ai qK 0 rfl
 have c1:W1.cell? ⟨w.heap.size,1,none⟩=some (.int .i64 0):=ai qK 1 rfl
 have c2:W1.cell? ⟨w.heap.size,2,none⟩=some (.int .i64 0):=ai qK 2 rfl
 have f0:=aA qK 0
 have f1:=aA qK 1
 have f2:=aA qK 2
 have x0:W1.setCell ⟨w.heap.size,0,none⟩ (.slice ao bs.length cap)=W1:=aJ qK (j:=0) rfl
 have x1:W1.setCell ⟨w.heap.size,1,none⟩ (.int .i64 0)=W1:=aJ qK (j:=1) rfl
 have x2:W1.setCell ⟨w.heap.size,2,none⟩ (.int .i64 0)=W1:=aJ qK (j:=2) rfl
 clear qK
 go_enter Tryz.func204,Tryz.ntmps204
 go_wp2_with fail
 refine(qi w W1 w.heap.size _ bs 0 false 8 r1 hl (by omega)).mono ?_
 rintro E w2 ⟨c,a2,jB,rfl,r2,gT,s2⟩
 have hc8:=Bm.ui s2
 have dz:=gT.size
 have LS0:=hide (Bm.anL s2)
 clear s2 r1
 go_wp2_with (at_make;refine wpList_make_own _ rfl _ _ 33 rfl (w.heap.size+1) 111 i0 (.agg #[.bool false,.string ⟨#[]⟩,.string ⟨#[]⟩]) 3 Tryz.underlying33 hi hz0 hz1 _ _ _ c rfl rfl (by omega) ?b2 ?b3 (by omega) ?_)
 case b2=>rw[hz2];omega
 case b3=>unfold maxLen;omega
 intro w3 hown3 hgrow3
 have aD:Below w2.heap.size w2 w3:=(Below.refl _ _).grown hgrow3 (Nat.le_refl _) (by simp)
 have bD:bg 111 (w.heap.size+1) w3 (.slice (some ⟨w2.heap.size,0,none⟩) 0 c) []:=hown3
 have r3:=r2.below aD
 have cB:=aD.size
 clear r2 aD hown3 hgrow3 gT c0 c1 c2 f0 f1 f2 x0 x1 x2 hW1 aj
 go_wp2
 go_loopw [2,7,15] (fun lv av i wr=>∃(k:Nat) (l:List Bm.Ov) (ah:ByteArray) (a:Nat) (bad:Bool),k≤c∧i=.int .i64 k∧av=.string ah∧ah.size≤16∧l.length=k∧Hid (qC l)∧bg 111 (w.heap.size+1) wr lv l∧fG w wr w.heap.size (.slice ao bs.length cap) bs a bad∧Hid (Bm.LS bs c l a bad ah.data.toList)) (fun _ _ i _=>c-(intOf i).toNat)
 case atStart=>exact⟨0,[],⟨#[]⟩,a2,jB,by omega,rfl,rfl,by simp[ByteArray.size],rfl,hide (fun o ho=>by simp at ho),bD,r3,LS0⟩
 case round=>
  obtain⟨k,l,ah,a,bad,hk,rfl,rfl,hah,hlk,HS,own,r,L⟩:=hrel
  have hgl:=r.lt
  by_cases hlt:k<c
  ·have hlt':(k:Int)<c:=by omega
   go_wp2_with fail
   refine(arC w wr w.heap.size _ bs a bad ah r hl hah).mono ?_
   rintro E w4 ⟨o,a4,jo,rfl,r4,vL,os4,hok,hov⟩
   unfold xA
   have lZ:=vL.size
   have aW:=own.kept vL (by
    rcases hv:Value.ownBlock _ with _|b
    ·exact .inl rfl
    ·refine .inr fun e=>?_
     have:=own.block b hv
     simp at e
     omega)
   have arh:=aW.block
   have L4:=hide (Bm.arD L.out (by omega) os4)
   have HS4:=hide (HS.out.snoc hok hov)
   obtain⟨w5,qU,tQ,aZ,qN⟩:=ak w4 #[.bool o.p,.string o.k,.string o.v] 111
   have p0:w5.cell? ⟨w4.heap.size,0,none⟩=some (.bool o.p):=ai qN 0 rfl
   have p1:w5.cell? ⟨w4.heap.size,1,none⟩=some (.string o.k):=ai qN 1 rfl
   have p2:w5.cell? ⟨w4.heap.size,2,none⟩=some (.string o.v):=ai qN 2 rfl
   have q0:=aA qN 0
   have q1:=aA qN 1
   have q2:=aA qN 2
   have x0:w5.setCell ⟨w4.heap.size,0,none⟩ (.bool o.p)=w5:=aJ qN (j:=0) rfl
   have x1:w5.setCell ⟨w4.heap.size,1,none⟩ (.string o.k)=w5:=aJ qN (j:=1) rfl
   have x2:w5.setCell ⟨w4.heap.size,2,none⟩ (.string o.v)=w5:=aJ qN (j:=2) rfl
   have dw:=aW.below aZ
   have r5:=r4.below aZ
   obtain⟨w6,rQ,mY,eB,eT⟩:=zY 111 w5 #[.bool o.p,.string o.k,.string o.v] 1 [o] rfl rfl (by simp[maxLen])
   rw[tQ]at eT
   have je:=dw.below eB
   have r6:=r5.below eB
   have avG:=(eB.block w4.heap.size (by omega)).trans qN
   have B6:=hide avG
   have R6:=hide r6
   clear os4 own aW dw r r4 r5 r6 qN avG aZ eB vL L HS
   go_wp2_with (at_builtin;refine pK rfl (.tmp 19) (.tmp 21) 33 rfl 111 (w.heap.size+1) Tryz.underlying33 Tryz.ab8 _ l rfl je _ [o] rfl eT.is (by simp;omega) (by omega) ?_)
   intro v8 w8 pE lD gr8
   have awl:=(gr8.block w4.heap.size (by omega) (fun e=>by have:=arh _ e.symm;omega)).trans B6.out
   have r8:fG w w8 w.heap.size (.slice ao bs.length cap) bs a4 jo:=by
    obtain⟨h1,h2,h3,h4,h5⟩:=R6.out
    have hs:=h3.size
    exact⟨h1,h2,h3.trans (lD.mono (by omega)),(lD.block w.heap.size (by omega)).trans h4,h5⟩
   have k1:w8.cell? ⟨w4.heap.size,1,none⟩=some (.string o.k):=ai awl 1 rfl
   clear awl je eT gr8 lD B6 R6 p0 p1 p2 q0 q1 q2 x0 x1 x2 arh qU rQ
   go_wp2
   go_roundw
   case rel=>exact⟨k+1,l++[o],o.k,a4,jo,by omega,by go_num,rfl,hok,by simp[hlk],HS4,pE,r8,L4⟩
   case measure=>simp[intOf];omega
  ·have hke:k=c:=by omega
   have hlt':¬(k:Int)<c:=by omega
   have fC:Below w.heap.size w wr:=r.2.2.1
   cases bad
   ·have e2:=r.good
    have e1:=r.cell1
    have R:=hide r
    clear r
    by_cases hc:Bm.dY l=0
    ·have HR:=hide (Bm.as5 L.out (by omega) hc)
     have HC:=hide hc
     clear hc L
     go_wp2_with fail
     refine(mg _ l _ own.is HS.out.fit (by omega)).mono ?_
     rintro E w9 ⟨rfl,gG⟩
     rw[HC.out]
     have r9:=R.out.below gG
     have e19:=r9.cell1
     have abo:=(own.below gG).bu (base':=w.heap.size) (by omega)
     have vC:Below w.heap.size w w9:=fC.trans (gG.mono fC.size)
     clear own r9 gG
     go_wp2_with fail
     go_quiet (fail)
     go_wp2
     refine bodyPost_ret (v:=.tuple #[_,.int .i64 (a:Int),.int .i64 0]) (by simp[results,Tryz.results204,go_sem];rfl) rfl ?_
     exact⟨_,l,_,_,rfl,abo.below (below_drewN (Below.refl _ _) nq),HR.out,below_drewN vC nq⟩
    ·have HR:=hide (Bm.ajN L.out (fun _=>by omega) (.inr hc))
     obtain⟨cc,hcc⟩:∃cc,Bm.dY l=cc:=⟨_,rfl⟩
     have hcb:(cc !=0)=true:=by rw[←hcc];simpa using hc
     have HC:=hide hcc
     clear hc L hcc
     go_wp2_with fail
     refine(mg _ l _ own.is HS.out.fit (by omega)).mono ?_
     rintro E w9 ⟨rfl,gG⟩
     rw[HC.out]
     have vC:Below w.heap.size w w9:=fC.trans (gG.mono fC.size)
     go_wp2
     refine bodyPost_ret (v:=.tuple #[.slice none 0 0,.int .i64 0,.int .i64 5]) (by simp[results,Tryz.results204,go_sem]) rfl ?_
     exact⟨_,[],_,_,rfl,bg.nil _ _ _,HR.out,vC⟩
   ·have e2:=r.ajd
    have HR:=hide (Bm.ajN L.out (fun h=>by simp at h) (.inl rfl))
    clear L r
    go_wp2
    refine bodyPost_ret (v:=.tuple #[.slice none 0 0,.int .i64 0,.int .i64 5]) (by simp[results,Tryz.results204,go_sem]) rfl ?_
    exact⟨_,[],_,_,rfl,bg.nil _ _ _,HR.out,fC⟩
def afw (bs:List Int) (e n:Int) (l:List Bm.Ov) (k g:Int):Prop:=
 (g=0∧∃x y:Nat,x≤1048576∧y≤1048576∧Vm.enc x<+:bs∧Vm.enc y<+:bs.drop (Vm.sz x)∧Bm.dY l=0∧Bm.eD l<+:bs.drop (Vm.sz x+Vm.sz y)∧e=x∧n=y∧k=((Vm.sz x+Vm.sz y+(Bm.eD l).length:Nat):Int))∨
 (g=5∧e=0∧n=0∧l=[]∧k=0∧∀e' n' l',Cm.chk e' n' l'=0→Cm.iB e' n' l'≠bs)
theorem agd {bs:List Int}{u i g:Int}(h:zK bs 1048576 u i g):
  (g=0∧∃x s:Nat,x≤1048576∧Vm.enc x<+:bs∧Vm.sz x=s∧u=x∧i=s∧s≤bs.length∧s≤10)∨(g=5∧u=0∧i=0∧Cm.ajr bs):=by
 rcases h with⟨hR,_,h2,rfl⟩|⟨rfl,rfl,rfl,x,n,e,hR,hx⟩
 ·have hb:=Vm.mU hR
  rcases hR with⟨x,h3,h4,rfl,rfl,_⟩|⟨_,_,_,h⟩
  ·exact .inl ⟨rfl,x,_,by omega,h4,rfl,rfl,rfl,by omega,by omega⟩
  ·simp at h
 ·refine .inr ⟨rfl,rfl,rfl,fun y hy hp=>?_⟩
  obtain⟨e1,e2,e3⟩:=Vm.uU hR (by omega) hp
  omega
theorem alC (vb:Value)(bs:List Int)(w:World)(hb:Is .u8 w vb bs)(hl:bs.length≤140737488355328):
  Calls Tryz.prog 184 #[vb] w fun E w'=>∃(e n k g:Int) (v:Value) (l:List Bm.Ov),E=.returned (.tuple #[bK e n v,.int .i64 k,.int .i64 g])∧bg 111 w.heap.size w' v l∧afw bs e n l k g∧Below w.heap.size w w':=by
 unfold bK
 obtain⟨w1,hw1,aT,aj,hB⟩:=ak w #[.int .i64 0,.int .i64 0,.slice none 0 0] 35
 have hb1:=hb.below aj
 obtain⟨u,i,g,hS⟩:=nD bs 1048576
 obtain⟨ao,cap,rfl,_,_⟩:=hb.shape
 obtain⟨Z,hZ,bZ,gZ,⟨a0,a1,a2⟩,⟨f0,f1,f2⟩,⟨z0,z1,z2⟩⟩:=dP hB (.int .i64 0) (.int .i64 0) (.slice none 0 0)
 have zR:=aB aj gZ (Nat.le_refl _) (by omega)
 have HB:=hide hB
 have HS:=hide hS
 clear hB bZ gZ
 go_enter Tryz.func184,Tryz.ntmps184
 go_wp2_with fail
 refine(jZ _ bs 1048576 u i g _ hb1 (by omega) (by omega) (by omega) HS.out).mono ?_
 rintro E w2 ⟨rfl,rfl⟩
 rcases agd HS.out with⟨rfl,x,s,hx,px,hsx,rfl,rfl,hsl,aoi⟩|⟨rfl,rfl,rfl,hN⟩
 ·obtain⟨vs,hvs,eQ⟩:=hb1.gq Tryz.kW Tryz.mG s hsl
  obtain⟨u,i,g,hS2⟩:=nD (bs.drop s) 1048576
  have HX:Hid (Vm.enc x<+:bs∧Vm.sz x=s):=⟨px,hsx⟩
  have HS2:=hide hS2
  clear px hsx hS2 HS
  go_wp2_with fail
  refine(jZ _ _ 1048576 u i g _ eQ (by rw[List.length_drop];omega) (by omega) (by omega) HS2.out).mono ?_
  rintro E w2 ⟨rfl,rfl⟩
  rcases agd HS2.out with⟨rfl,y,r,hy,py,hsy,rfl,rfl,hrl,hr10⟩|⟨rfl,rfl,rfl,hN⟩
  ·rw[List.length_drop]at hrl
   obtain⟨vr,hvr,isr⟩:=hb1.gq Tryz.kW Tryz.mG (s+r) (by omega)
   have HY:Hid (Vm.enc y<+:bs.drop s∧Vm.sz y=r):=⟨py,hsy⟩
   push_cast at hvr
   clear py hsy HS2
   go_wp2_with fail
   refine(akW vr _ _ isr (by rw[List.length_drop];omega)).mono ?_
   rintro E w3 ⟨vl,l,k,e,rfl,wX,hR,aD⟩
   have cB:=aD.size
   have hB3:=(aD.block w.heap.size (by omega)).trans HB.out
   have aY:=aj.trans (aD.mono (by omega))
   obtain⟨px,hsx⟩:=HX.out
   obtain⟨py,hsy⟩:=HY.out
   clear HX HY hZ a0 a1 a2 f0 f1 f2 z0 z1 z2 zR aj aD hb1 eQ isr hvs hvr hb
   rcases hR with⟨rfl,hc,hp,rfl⟩|⟨rfl,rfl,rfl,hno⟩
   ·obtain⟨ah,ch,hvl,_,_⟩:=wX.is.shape
    subst hvl
    have hpl:=hp.length_le
    rw[List.length_drop]at hpl
    obtain⟨V,hV,bV,gV,⟨a0,a1,a2⟩,⟨f0,f1,f2⟩,⟨z0,z1,z2⟩⟩:=dP hB3 (.int .i64 x) (.int .i64 y) (.slice ah l.length ch)
    have bf:=aB aY gV (Nat.le_refl _) (by omega)
    have jG:=(wX.aaL gV (by omega)).bu (base':=w.heap.size) (by omega)
    have HR:Hid (afw bs x y l ((s+r+(Bm.eD l).length:Nat):Int) 0):=hide (.inl ⟨rfl,x,y,hx,hy,px,by rw[hsx];exact py,hc,by rw[hsx,hsy];exact hp,rfl,rfl,by rw[hsx,hsy]⟩)
    clear px py hsx hsy hc hp bV gV hB3 wX aY
    go_wp2
    refine bodyPost_ret (v:=.tuple #[.agg #[.int .i64 x,.int .i64 y,.slice ah l.length ch],.int .i64 ((s+r+(Bm.eD l).length:Nat):Int),.int .i64 0]) (by simp[results,Tryz.results184,go_sem,z0,z1,z2]) rfl ?_
    exact⟨_,_,_,_,_,_,rfl,jG,HR.out,bf⟩
   ·obtain⟨V,hV,bV,gV,⟨a0,a1,a2⟩,⟨f0,f1,f2⟩,⟨z0,z1,z2⟩⟩:=dP hB3 (.int .i64 0) (.int .i64 0) (.slice none 0 0)
    have bf:=aB aY gV (Nat.le_refl _) (by omega)
    have HR:Hid (afw bs 0 0 [] 0 5):=hide (.inr ⟨rfl,rfl,rfl,rfl,rfl,Cm.an0 px (by rw[hsx];exact py) (by rw[hsx,hsy];exact hno)⟩)
    clear px py hsx hsy hno bV gV hB3 wX aY
    go_wp2
    refine bodyPost_ret (v:=.tuple #[.agg #[.int .i64 0,.int .i64 0,.slice none 0 0],.int .i64 0,.int .i64 5]) (by simp[results,Tryz.results184,go_sem,z0,z1,z2]) rfl ?_
    exact⟨_,_,_,_,_,_,rfl,bg.nil _ _ _,HR.out,bf⟩
  ·have HR:Hid (afw bs 0 0 [] 0 5):=hide (.inr ⟨rfl,rfl,rfl,rfl,rfl,Cm.ali HX.out.1 (by rw[HX.out.2];exact hN)⟩)
   clear hN HS2 HX
   go_wp2
   refine bodyPost_ret (v:=.tuple #[.agg #[.int .i64 0,.int .i64 0,.slice none 0 0],.int .i64 0,.int .i64 5]) (by simp[results,Tryz.results184,go_sem,z0,z1,z2]) rfl ?_
   exact⟨_,_,_,_,_,_,rfl,bg.nil _ _ _,HR.out,zR⟩
 ·have HR:Hid (afw bs 0 0 [] 0 5):=hide (.inr ⟨rfl,rfl,rfl,rfl,rfl,Cm.anZ hN⟩)
  clear hN HS
  go_wp2
  refine bodyPost_ret (v:=.tuple #[.agg #[.int .i64 0,.int .i64 0,.slice none 0 0],.int .i64 0,.int .i64 5]) (by simp[results,Tryz.results184,go_sem,z0,z1,z2]) rfl ?_
  exact⟨_,_,_,_,_,_,rfl,bg.nil _ _ _,HR.out,zR⟩
def aoO (e n:Int) (l:List Bm.Ov):Prop:=In64 e∧In64 n∧iL l∧l.length≤8
theorem arV {e n:Int}{l:List Bm.Ov}(h:Cm.chk e n l=0):aoO e n l:=by
 obtain⟨h1,h2,h3,h4,h5⟩:=Cm.aO h
 exact⟨⟨by omega,by omega⟩,⟨by omega,by omega⟩,(nE h5).fit,(Bm.dO h5).2.1⟩
structure fT (b:Nat) (w:World) (vc:Value) (cs:List Cw):Prop where
 c:bn 35 b w vc cs
 o:dR b w cs
 i:∀c∈cs,In64 c.e∧In64 c.n
 ap:ApC cs
 f:dL cs
theorem fT.nil (b:Nat)(w:World):fT b w (.slice none 0 0) []:=⟨bn.nil _ _ _,fun c hc=>by simp at hc,fun c hc=>by simp at hc,fun i j c d _ hc=>by simp at hc,fun c hc=>by simp at hc⟩
theorem fT.below {b:Nat}{w w':World}{vc:Value}{cs:List Cw}(h:fT b w vc cs)(hb:Below w.heap.size w w'):fT b w' vc cs:=⟨h.c.below hb,h.o.below hb,h.i,h.ap,h.f⟩
theorem fT.out {b:Nat}{w w':World}{vc:Value}{cs:List Cw}{F:Nat→Prop}(h:fT b w vc cs)(ho:Out F w w')(hF:∀i,F i→i<b):fT b w' vc cs:=by
 have k:∀(v:Value),(∀g,v.ownBlock=some g→b≤g∧g<w.heap.size)→∀g,v.ownBlock=some g→w'.heap[g]? =w.heap[g]? :=fun v hv g hg=>ho.block g (hv g hg).2 fun hf=>by have:=hF g hf;have:=(hv g hg).1;omega
 exact⟨bN h.c (k _ (World.ownsRow.lt h.c)),fun c hc=>bN (h.o c hc) (k _ (World.ownsRow.lt (h.o c hc))),h.i,h.ap,h.f⟩
theorem fT.bu {b b':Nat}{w:World}{vc:Value}{cs:List Cw}(h:fT b w vc cs)(hb:b'≤b):fT b' w vc cs:=⟨mD h.c hb,fun c hc=>mD (h.o c hc) hb,h.i,h.ap,h.f⟩
theorem fT.snoc {b:Nat}{w z4:World}{vc v4:Value}{cs:List Cw}{e n:Int}{vl:Value}{l:List Bm.Ov}{N:Nat}(h:fT b w vc cs)(kp:bH 35 w z4)(hc:bn 35 b z4 v4 (cs++[⟨e,n,vl,l⟩]))(ho:bg 111 N w vl l)(hN:b≤N)(hlt:∀d∈cs,∀g,d.v.ownBlock=some g→g<N)(hf:aoO e n l):fT b z4 v4 (cs++[⟨e,n,vl,l⟩]):=by
 refine⟨hc,(h.o.iJ kp).snoc ((ho.bu hN).iJ kp (by decide)),fun c hcc=>?_,afB h.ap hlt (fun g hg=>(World.ownsRow.lt ho g hg).1),fun c hcc=>?_⟩
 ·rcases List.mem_append.1 hcc with hcc|hcc
  ·exact h.i c hcc
  ·rw[List.mem_singleton.1 hcc];exact⟨hf.1,hf.2.1⟩
 ·rcases List.mem_append.1 hcc with hcc|hcc
  ·exact h.f c hcc
  ·rw[List.mem_singleton.1 hcc];exact⟨hf.2.2.1,by have:=hf.2.2.2;show l.length*40≤_;omega⟩
theorem fT.push {b:Nat}{w w6:World}{v:Value}{cs:List Cw}(h:fT b w v cs)(hbw:b≤w.heap.size)(hb:Below w.heap.size w w6)(c:Cw)(hc:bg 111 w.heap.size w6 c.v c.l)(hf:aoO c.e c.n c.l)(hl:cs.length≤2000000):
  ∃V,w6.alloc (.cells #[.int .i64 c.e,.int .i64 c.n,c.v] 35)=V∧Below w6.heap.size w6 V∧V.heap.size=w6.heap.size+1∧∀ty,∃v2 w2,(Builtin.append_ #[22,22] ty #[v,.slice (some ⟨w6.heap.size,0,none⟩) 1 1]).run Tryz.prog V=.ok v2 w2∧fT b w2 v2 (cs++[c])∧V.grownBy w2 v.ownBlock∧∃a n k,v2=.slice a n k:=by
 obtain⟨V,hV,jX,bf,jG⟩:=kC 35 w6 #[.int .i64 c.e,.int .i64 c.n,c.v] 1 [c] rfl rfl (by simp[maxLen])
 have mY:=hb.size
 have xg:Below w.heap.size w V:=hb.trans (bf.mono mY)
 refine⟨V,hV,bf,jX,fun ty=>?_⟩
 have hV':=h.below xg
 obtain⟨v2,w2,hr,aP,gT,at2⟩:=ky (P:=Tryz.prog) (w:=V) 22 ty 35 b Tryz.underlying22 Tryz.oq v cs hV'.c _ [c] jG.row (fun d hd=>by rw[List.mem_singleton.1 hd];exact hc.is.one) (by simp;omega) (by omega)
 refine⟨v2,w2,hr,?_,gT,?_⟩
 ·exact hV'.snoc (N:=w.heap.size) (bH.xz hV'.c gT) aP (hc.below bf) hbw (fun d hd g hg=>(bg.block (h.o d hd) g hg).2) hf
 ·obtain⟨a1,k1,h1,_⟩:=aP.row.shape
  exact⟨a1,_,k1,h1⟩
structure Sw where
 e:Int
 f:Int
 v:Value
 rs:List Cw
def Sw.s (x:Sw):Orp.Se:=⟨x.e,x.f,ay x.rs⟩
def Sw.c (x:Sw):Cw:=⟨x.e,x.f,x.v,[]⟩
def iq (l:List Sw):List Orp.Se:=l.map Sw.s
def yU (l:List Sw):List Cw:=l.map Sw.c
def nJ (w:World) (v:Value) (l:List Sw):Prop:=fu w v (yU l)∧∀x∈l,di w x.v x.rs∧In64 x.e∧In64 x.f
def tY (l:List Sw):Prop:=∀x∈l,dL x.rs∧x.rs.length*40≤140737488351232
theorem nJ.below {w w':World}{v:Value}{l:List Sw}(h:nJ w v l)(hb:Below w.heap.size w w'):nJ w' v l:=⟨h.1.below hb,fun x hx=>⟨(h.2 x hx).1.below hb,(h.2 x hx).2⟩⟩
theorem xR (l:List Sw):(yU l).length=l.length:=by unfold yU;rw[List.length_map]
theorem av4 {l:List Sw}{k:Nat}{x:Sw}(h:l[k]? =some x):(yU l)[k]? =some x.c:=by unfold yU;rw[List.getElem?_map,h];rfl
theorem p8 (l:List Sw):(iq l).length=l.length:=by unfold iq;rw[List.length_map]
theorem nJ.shape {w:World}{v:Value}{l:List Sw}(h:nJ w v l):∃ao cap,v=.slice ao l.length cap∧l.length≤cap∧cap≤maxLen:=by
 have:=h.1.shape
 rwa[xR]at this
theorem nJ.full {w:World}{v:Value}{l:List Sw}(h:nJ w v l)(hne:0<l.length):
  ∃b off cap,v=.slice (some ⟨b,off,none⟩) l.length cap∧l.length≤cap∧cap≤maxLen∧b<w.heap.size∧∀i x,l[i]? =some x→w.cell? ⟨b,off+i*3,none⟩=some (.int .i64 x.e)∧w.cell? ⟨b,off+i*3+1,none⟩=some (.int .i64 x.f)∧w.cell? ⟨b,off+i*3+2,none⟩=some x.v:=by
 obtain⟨b,off,cap,h1,h2,h3,h4,h5⟩:=h.1.full (by rw[xR];exact hne)
 rw[xR]at h1 h2
 exact⟨b,off,cap,h1,h2,h3,h4,fun i x hx=>h5 i x.c (av4 hx)⟩
theorem ahJ {rs:List Cw}{k:Nat}{c:Cw}(h:rs[k]? =some c):(ay rs)[k]? =some c.c:=by
 unfold ay
 rw[List.getElem?_map,h]
 rfl
theorem iI (rs:List Cw):(ay rs).length=rs.length:=by unfold ay;rw[List.length_map]
theorem aoq {rs:List Cw}{k:Nat}{c:Cw}(h:rs[k]? =some c)(hk:k+1=rs.length)(ep:Int):Cm.lastE ep (ay rs)=c.e:=by
 have h1:=ahJ h
 obtain⟨hlt,e⟩:=List.getElem?_eq_some_iff.1 h1
 have h2:ay rs=(ay rs).take k++[c.c]:=by
  have:(ay rs).take (k+1)=ay rs:=List.take_of_length_le (by rw[iI];omega)
  rw[←this,List.take_succ_eq_append_getElem hlt,e,List.take_append_of_le_length (by rw[List.length_take];omega),List.take_take,Nat.min_self]
 rw[h2,(Cm.iE _ _ _ 0).1]
 rfl
theorem vX (e f:Int)(v:Value)(rs:List Cw)(w:World)(h:di w v rs)(hf:dL rs)(hl:rs.length≤140737488355328):
  Calls Tryz.prog 93 #[bK e f v] w fun E w'=>E=.returned (.int .i64 (Orp.chk ⟨e,f,ay rs⟩))∧Below w.heap.size w w':=by
 unfold bK
 obtain⟨w1,hw1,aT,aj,hB⟩:=ak w #[.int .i64 e,.int .i64 f,v] 52
 have c0:w1.cell? ⟨w.heap.size,0,none⟩=some (.int .i64 e):=ai hB 0 rfl
 have c1:w1.cell? ⟨w.heap.size,1,none⟩=some (.int .i64 f):=ai hB 1 rfl
 have c2:w1.cell? ⟨w.heap.size,2,none⟩=some v:=ai hB 2 rfl
 obtain⟨ao,cap,hvl,hcap,hcm⟩:=h.1.shape
 have B1:=hide aj
 by_cases ha:e<1∨1048576<e∨f<0∨rs.length=0
 ·rw[Orp.arU (s:=⟨e,f,ay rs⟩) (by rw[show(Orp.Se.mk e f (ay rs)).cs=ay rs from rfl,iI];exact ha)]
  subst hvl
  clear h hf hB aj
  by_cases q1:e<1
  ·clear ha
   go_enter Tryz.func93,Tryz.ntmps93
   go_wp2
   go_ret
   exact⟨rfl,B1.out⟩
  by_cases q2:1048576<e
  ·clear ha
   go_enter Tryz.func93,Tryz.ntmps93
   go_wp2
   go_ret
   exact⟨rfl,B1.out⟩
  by_cases q3:f<0
  ·clear ha
   go_enter Tryz.func93,Tryz.ntmps93
   go_wp2
   go_ret
   exact⟨rfl,B1.out⟩
  have q4:rs.length=0:=by omega
  rw[q4]at hw1 c2⊢
  clear ha hl hcap
  go_enter Tryz.func93,Tryz.ntmps93
  go_wp2
  go_ret
  exact⟨rfl,B1.out⟩
 have h12:¬((Orp.Se.mk e f (ay rs)).e<1∨1048576<(Orp.Se.mk e f (ay rs)).e∨(Orp.Se.mk e f (ay rs)).f<0∨(Orp.Se.mk e f (ay rs)).cs.length=0):=by
  rw[show(Orp.Se.mk e f (ay rs)).cs=ay rs from rfl,iI];exact ha
 have q1:¬e<1:=by omega
 have q2:¬1048576<e:=by omega
 have q3:¬f<0:=by omega
 have q4:((rs.length:Int)==0)=false:=by rw[beq_eq_false_iff_ne];omega
 have X:=hide (jA 1 f v rs w1 (h.below aj) hf hl)
 unfold rE at X
 have HB:=hide (fun k=>Orp.ary (s:=⟨e,f,ay rs⟩) h12 k)
 have HO:=hide (fun k q=>Orp.arT (s:=⟨e,f,ay rs⟩) h12 k q)
 have HK:=hide (fun k q=>Orp.fZ (s:=⟨e,f,ay rs⟩) h12 k q)
 obtain⟨z,hz⟩:∃z,Orp.chk ⟨e,f,ay rs⟩=z:=⟨_,rfl⟩
 rw[hz]at HB HO HK⊢
 obtain⟨n,hn⟩:∃n,rs.length=n+1:=⟨rs.length-1,by omega⟩
 obtain⟨b,off,cap',hv,_,_,hb,hcell⟩:=h.1.full (by omega)
 obtain⟨c,hc⟩:∃c,rs[n]? =some c:=⟨rs[n]'(by omega),List.getElem?_eq_getElem _⟩
 have hla:=aoq hc hn.symm 1
 have d0:=(aj.cell (p:=⟨b,off+n*3,none⟩) hb).trans (hcell n c hc).1
 have hb1:b<w1.heap.size:=by omega
 simp only at HB HO HK
 rw[hla]at HO HK
 obtain⟨fl,hfl⟩:∃g,Cm.fol 1 f 0 (ay rs)=g:=⟨_,rfl⟩
 rw[hfl]at X HB HO HK
 clear hz hfl
 obtain⟨fe,fp⟩:=fl
 simp only at X HB HO HK
 rw[hvl]at hv
 simp only[Value.slice.injEq,true_and]at hv
 obtain⟨hao,hcp⟩:=hv
 subst hao hcp
 have g2:IntKind.i64.wrap ((rs.length:Int)-1)=(n:Int):=by rw[kF _ (by omega) (by omega)];omega
 have g3:(n:Int)<(rs.length:Int):=by omega
 have g4:(0:Int)≤(n:Int):=by omega
 rw[hvl]at X
 subst hvl
 have HBB:=hide hB
 clear h hf hcell hc hn hla h12 ha hB
 go_enter Tryz.func93,Tryz.ntmps93
 go_wp2_with fail
 refine X.out.mono ?_
 rintro E w2 ⟨rfl,au⟩
 obtain⟨w3,hw3,ah8,cB,aD,hF,a0,a1⟩:=nC w2 31 (.int .i64 0) (.int .i64 0) (.int .i64 fe) (.int .i64 fp)
 have nY:Below w1.heap.size w1 w3:=au.trans (aD.mono au.size)
 have B3:=hide (B1.out.trans (nY.mono (by omega)))
 have hB3:=(nY.block w.heap.size (by omega)).trans HBB.out
 have k0:=ai hB3 0 rfl
 have k2:=ai hB3 2 rfl
 simp only[List.getElem_toArray,List.getElem_cons_zero,List.getElem_cons_succ]at k0 k2
 have d3:=(nY.cell (p:=⟨b,off+n*3,none⟩) hb1).trans d0
 clear X au aD hF hB3 HBB nY
 by_cases hfe:fe=0
 ·have hb:(fe !=0)=false:=by simp[hfe]
  by_cases h3:e≤c.e
  ·have HE:=hide (HO.out hfe h3)
   clear HO HK HB hfe
   go_wp2_with fail
   go_quiet (fail)
   go_wp2
   go_ret
   exact⟨by rw[HE.out];rfl,below_drewN B3.out _⟩
  ·have HE:=hide (HK.out hfe (by omega))
   clear HO HK HB hfe
   go_wp2_with fail
   go_quiet (fail)
   go_wp2
   go_ret
   exact⟨by rw[HE.out];rfl,below_drewN B3.out _⟩
 ·have hb:(fe !=0)=true:=by simp[hfe]
  have HE:=hide (HB.out hfe)
  clear HO HK HB hfe
  go_wp2
  go_ret
  exact⟨by rw[HE.out];rfl,B3.out⟩
theorem anQ {rs:List Cw}{k:Nat}{c:Cw}(h:rs[k]? =some c):ay (rs.take (k+1))=ay (rs.take k)++[c.c]:=by
 obtain⟨hk,e⟩:=List.getElem?_eq_some_iff.1 h
 rw[List.take_succ_eq_append_getElem hk,e]
 simp[ay]
theorem aoh {rs:List Cw}{k:Nat}{c:Cw}(h:rs[k]? =some c):Wl.aR (ay (rs.take (k+1)))=Wl.aR (ay (rs.take k))++Wl.fr c.c:=by
 rw[anQ h,Wl.kL,Wl.yt]
theorem aoa (vb:Value)(bs:List Int)(w:World)(hb:Is .u8 w vb bs)(hl:bs.length≤140737488355328):
  Calls Tryz.prog 134 #[vb] w fun E w'=>∃(e n g:Int) (v:Value) (l:List Bm.Ov),E=.returned (.tuple #[bK e n v,.int .i64 g])∧bg 111 w.heap.size w' v l∧Cm.pg bs e n l g∧Below w.heap.size w w':=by
 unfold bK
 obtain⟨w1,hw1,aT,aj,hB⟩:=ak w #[.int .i64 0,.int .i64 0,.slice none 0 0] 35
 have hb1:=hb.below aj
 obtain⟨ao,cap,rfl,_,_⟩:=hb.shape
 have HB:=hide hB
 clear hB
 go_enter Tryz.func134,Tryz.ntmps134
 go_wp2_with fail
 refine(alC _ bs _ hb1 (by omega)).mono ?_
 rintro E w2 ⟨e,n,k,g,vl,l,rfl,wX,hR,au⟩
 unfold bK
 have dz:=au.size
 have hB2:=(au.block w.heap.size (by omega)).trans HB.out
 have aL:=aj.trans (au.mono (by omega))
 obtain⟨ah,ch,hvl,_,_⟩:=wX.is.shape
 subst hvl
 obtain⟨V,hV,hV2,jX,bf,bC,c0,c1,c2⟩:=fJ w2 35 (.int .i64 0) (.int .i64 0) (.slice none 0 0) (.int .i64 e) (.int .i64 n) (.slice ah l.length ch)
 have hB3:=(bf.block w.heap.size (by omega)).trans hB2
 have aib:=aL.trans (bf.mono (by omega))
 obtain⟨Z,hZ,bZ,gZ,⟨a0,a1,a2⟩,⟨f0,f1,f2⟩,⟨z0,z1,z2⟩⟩:=dP hB3 (.int .i64 0) (.int .i64 0) (.slice none 0 0)
 have zR:=aB aib gZ (Nat.le_refl _) (by omega)
 have H3:=hide hB3
 have HC:=hide bC
 have jG:=wX.below bf
 clear hB2 hB3 bC bZ gZ aj au aL HB wX hb1
 rcases hR with⟨rfl,x,y,hx,hy,px,py,hc,hp,rfl,rfl,rfl⟩|⟨rfl,rfl,rfl,rfl,rfl,hno⟩
 ·by_cases hk:Vm.sz x+Vm.sz y+(Bm.eD l).length=bs.length
  ·have HK:=hide hk
   rw[hk]
   have hkk:((bs.length:Int) !=(bs.length:Int))=false:=by simp
   have hfit:=(nE hc).fit
   have hl8:=(Bm.dO hc).2.1
   have P:Hid (Vm.enc x<+:bs∧Vm.enc y<+:bs.drop (Vm.sz x)∧Bm.dY l=0∧Bm.eD l<+:bs.drop (Vm.sz x+Vm.sz y)):=⟨px,py,hc,hp⟩
   clear hk px py hc hp
   go_wp2_with fail
   refine(uD x y _ l _ jG.is hfit (by omega)).mono ?_
   rintro E w4 ⟨rfl,aK⟩
   obtain⟨px,py,hc,hp⟩:=P.out
   have lZ:=aK.size
   have hB4:=(aK.block w.heap.size (by omega)).trans H3.out
   have hC4:=(aK.block w2.heap.size (by omega)).trans HC.out
   have dW:=aib.trans (aK.mono (by omega))
   have d0:=ai hC4 0 rfl
   have d1:=ai hC4 1 rfl
   have d2:=ai hC4 2 rfl
   have aW:=jG.below aK
   clear hZ z0 z1 z2 zR a0 a1 a2 f0 f1 f2 c0 c1 c2 hV hV2 bf aib jG H3 HC aK P
   by_cases hck:Cm.chk x y l=0
   ·rw[hck]
    obtain⟨V',hV',dN,cZ,⟨a0,a1,a2⟩,⟨f0,f1,f2⟩,⟨z0,z1,z2⟩⟩:=dP hB4 (.int .i64 x) (.int .i64 y) (.slice ah l.length ch)
    have fE:=aB dW cZ (Nat.le_refl _) (by omega)
    have aiW:=(aW.aaL cZ (by omega)).bu (base':=w.heap.size) (by omega)
    have HR:Hid (Cm.pg bs x y l 0):=hide (.inl ⟨rfl,hck,Cm.akd px py hp HK.out⟩)
    clear px py hc hp dN cZ hB4 aW dW hck HK hC4
    go_wp2
    refine bodyPost_ret (v:=.tuple #[.agg #[.int .i64 x,.int .i64 y,.slice ah l.length ch],.int .i64 0]) (by simp[results,Tryz.results134,go_sem,z0,z1,z2]) rfl ?_
    exact⟨_,_,_,_,_,rfl,aiW,HR.out,fE⟩
   ·have HR:Hid (Cm.pg bs 0 0 [] 5):=hide (.inr ⟨rfl,rfl,rfl,rfl,Cm.ag2 px py hc hp (.inr hck)⟩)
    have hne:(Cm.chk x y l==0)=false:=by simpa using hck
    obtain⟨V',hV',dN,cZ,⟨a0,a1,a2⟩,⟨f0,f1,f2⟩,⟨z0,z1,z2⟩⟩:=dP hB4 (.int .i64 0) (.int .i64 0) (.slice none 0 0)
    have fE:=aB dW cZ (Nat.le_refl _) (by omega)
    generalize Cm.chk x y l=ck at*
    clear px py hc hp dN cZ hB4 aW dW hck HK hC4
    go_wp2
    refine bodyPost_ret (v:=.tuple #[.agg #[.int .i64 0,.int .i64 0,.slice none 0 0],.int .i64 5]) (by simp[results,Tryz.results134,go_sem,z0,z1,z2]) rfl ?_
    exact⟨_,_,_,_,_,rfl,bg.nil _ _ _,HR.out,fE⟩
  ·have HR:Hid (Cm.pg bs 0 0 [] 5):=hide (.inr ⟨rfl,rfl,rfl,rfl,Cm.ag2 px py hc hp (.inl hk)⟩)
   generalize Vm.sz x+Vm.sz y+(Bm.eD l).length=q at*
   have hkk:((q:Int) !=(bs.length:Int))=true:=by simp;omega
   clear hk px py hc hp
   go_wp2
   refine bodyPost_ret (v:=.tuple #[.agg #[.int .i64 0,.int .i64 0,.slice none 0 0],.int .i64 5]) (by simp[results,Tryz.results134,go_sem,z0,z1,z2]) rfl ?_
   exact⟨_,_,_,_,_,rfl,bg.nil _ _ _,HR.out,zR⟩
 ·have HR:Hid (Cm.pg bs 0 0 [] 5):=hide (.inr ⟨rfl,rfl,rfl,rfl,hno⟩)
  clear hno
  simp only[List.length_nil]at hV hV2 c2
  go_wp2
  refine bodyPost_ret (v:=.tuple #[.agg #[.int .i64 0,.int .i64 0,.slice none 0 0],.int .i64 5]) (by simp[results,Tryz.results134,go_sem,z0,z1,z2]) rfl ?_
  exact⟨_,_,_,_,_,rfl,bg.nil _ _ _,HR.out,zR⟩
end Go.Proofs.YtmngcecomcadkaaGreatDoor
