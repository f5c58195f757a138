/- Texts of one layer, one behind the other. -/
import Derived.Test.YtjemlgdkjilnoaaGreatDoorH1
import Derived.Laws.BytesArg
import Derived.Test.YtjemlgdkjilnoaaGreatDoorH2
import Derived.Test.YtjemlgdkjilnoaaGreatDoorProg
import Derived.Shelf.RegionOpen
set_option maxRecDepth 100000
set_option maxHeartbeats 8000000
namespace Go.Proofs.YtjemlgdkjilnoaaGreatDoor
open Go.RowKit
set_option linter.unusedVariables false
theorem Is.conv {w:World}{v:Value}{zs:List Int}(h:Is .u8 w v zs){P:Program}{src e dst:TypeId}(hs:P.underlying src=some (.slice e))(he:P.underlying e=some (.int .u8))(hd:P.underlying dst=some .string):
  (convert src dst v).run P w=.ok (.string ⟨(Om.iK zs).toArray⟩) w:=by
 by_cases hz:0<zs.length
 ·obtain⟨b,o,c,rfl,_,_,_,hc⟩:=h.full hz
  exact run_convert_bytes_arg w src e hs he b o zs.length c zs rfl hc dst hd
 ·have:zs=[]:=List.eq_nil_of_length_eq_zero (by omega)
  subst this
  obtain⟨ao,c,rfl⟩:=h.bare
  cases ao with
  |none=>exact run_convert_bytes_nil w src e hs he 0 c dst hd
  |some ad=>
   rw[run_convert_bytes_string w src dst e _ 0 c hs he hd,run_bytesToString w ad 0 c [] (by have:=run_loadCells_list (P:=P) w ad [] (by simp);simpa using this)]
   rfl
theorem Is.bytes {w:World}{v:Value}{zs:List Int}(h:Is .u8 w v zs):∀z∈zs,0≤z∧z<256:=by
 intro z hz
 obtain⟨i,hi,rfl⟩:=List.getElem_of_mem hz
 have:=h.byte i
 simpa[List.getD,hi]using this
set_option maxRecDepth 100000
theorem afI (z:Int)(h0:-9223372036854775808≤z)(h1:z<9223372036854775808):IntKind.i64.wrap z=z:=by
 unfold IntKind.wrap
 simp[IntKind.bits,IntKind.signed]
 omega
def ei (bad:Bool):Int:=if bad then 5 else 0
def fC (w0 w:World) (g:Nat) (vb:Value) (bs:List Int) (a:Nat) (bad:Bool):Prop:=
 Is .u8 w0 vb bs∧w0.heap.size≤g∧Below w0.heap.size w0 w∧w.heap[g]? =some (.cells #[vb,.int .i64 a,.int .i64 (ei bad)] 269 (0,0))∧a≤bs.length
section
variable {w0 w w':World} {g a:Nat} {vb:Value} {bs:List Int} {bad:Bool}
theorem fC.lt (h:fC w0 w g vb bs a bad):g<w.heap.size:=ax h.2.2.2.1
theorem fC.is (h:fC w0 w g vb bs a bad):Is .u8 w vb bs:=h.1.below h.2.2.1
theorem fC.below (h:fC w0 w g vb bs a bad)(hb:Below w.heap.size w w'):fC w0 w' g vb bs a bad:=
 ⟨h.1,h.2.1,h.2.2.1.trans (hb.mono h.2.2.1.size),(hb.block g h.lt).trans h.2.2.2.1,h.2.2.2.2⟩
theorem fC.grown (h:fC w0 w g vb bs a bad){row:Nat}(hb:w.grownBy w' (some row))(hr:w0.heap.size≤row)(hne:row≠g):fC w0 w' g vb bs a bad:=
 ⟨h.1,h.2.1,h.2.2.1.grown hb h.2.2.1.size (fun k hk=>by simp at hk;omega),(hb.block g h.lt (by simp;omega)).trans h.2.2.2.1,h.2.2.2.2⟩
theorem fC.cell0 (h:fC w0 w g vb bs a bad):w.cell? ⟨g,0,none⟩=some vb:=ai h.2.2.2.1 0 rfl
theorem fC.cell1 (h:fC w0 w g vb bs a bad):w.cell? ⟨g,1,none⟩=some (.int .i64 a):=ai h.2.2.2.1 1 rfl
theorem fC.ad6 (h:fC w0 w g vb bs a bad):w.cell? ⟨g,2,none⟩=some (.int .i64 (ei bad)):=ai h.2.2.2.1 2 rfl
theorem fC.good (h:fC w0 w g vb bs a false):w.cell? ⟨g,2,none⟩=some (.int .i64 0):=h.ad6
theorem fC.ahT (h:fC w0 w g vb bs a true):w.cell? ⟨g,2,none⟩=some (.int .i64 5):=h.ad6
theorem fC.lI (h:fC w0 w g vb bs a bad)(j:Nat):w.frozen? ⟨g,j,none⟩=false:=aC h.2.2.2.1 j
theorem fC.am5 (h:fC w0 w g vb bs a bad)(a':Nat)(ha:a'≤bs.length):fC w0 (w.setCell ⟨g,1,none⟩ (.int .i64 a')) g vb bs a' bad:=
 ⟨h.1,h.2.1,h.2.2.1.setCell (p:=⟨g,1,none⟩) h.2.1 _,by rw[aI h.2.2.2.1];rfl,ha⟩
theorem fC.ah3 (h:fC w0 w g vb bs a bad)(bad':Bool):fC w0 (w.setCell ⟨g,2,none⟩ (.int .i64 (ei bad'))) g vb bs a bad':=
 ⟨h.1,h.2.1,h.2.2.1.setCell (p:=⟨g,2,none⟩) h.2.1 _,by rw[aI h.2.2.2.1];rfl,h.2.2.2.2⟩
end
theorem ahs (vb:Value)(bs:List Int)(most u i g:Int)(w:World)(hb:Is .u8 w vb bs)(hl:bs.length≤140737488355328)(hm:most<9223372036854775808)(hm':-9223372036854775808≤most)(hS:aap bs most u i g):
  Calls Tryz.prog 151 #[vb,.int .i64 most] w fun E w'=>E=.returned (.tuple #[.int .i64 u,.int .i64 i,.int .i64 g])∧∃m,w'=w.drewN m:=
 (ku vb bs most u i g w hb (by omega) hm hm' hS).mono (by rintro E w' ⟨rfl,rfl⟩;exact⟨rfl,0,rfl⟩)
theorem qj (w0 w:World)(g:Nat)(vb:Value)(bs:List Int)(a:Nat)(bad:Bool)(most:Nat)(h:fC w0 w g vb bs a bad)(hl:bs.length≤140737488355328)(hm:most<9223372036854775808):
  Calls Tryz.prog 232 #[.pointer (some ⟨g,0,none⟩),.int .i64 most] w fun E w'=>∃(u a':Nat) (bad':Bool),E=.returned (.int .i64 u)∧fC w0 w' g vb bs a' bad'∧w.grownBy w' (some g)∧Bm.SS bs most a bad u a' bad':=by
 have c0:=h.cell0
 have c1:=h.cell1
 have f1:=h.lI 1
 have f2:=h.lI 2
 have ha:=h.2.2.2.2
 cases bad
 ·have c2:=h.good
  obtain⟨vs,hsl,eH⟩:=h.is.gu Tryz.kW Tryz.mq a ha
  obtain⟨u,i,e,hS⟩:=ni (bs.drop a) most
  have hdl:(bs.drop a).length=bs.length-a:=by rw[List.length_drop]
  rcases hS with⟨hR,h1,h2,he⟩|⟨hu,hi,he,x,n,f,hR,hcase⟩
  ·have hbd:=Vm.mh hR
   obtain⟨un,rfl⟩:∃un:Nat,u=un:=⟨u.toNat,by omega⟩
   obtain⟨n,rfl⟩:∃n:Nat,i=n:=⟨i.toNat,by omega⟩
   have hG:Bm.SS bs most a false un (a+n) false:=by
    rcases hR with⟨x,hx,hp,h3,h4,_⟩|⟨_,_,_,h5⟩
    ·have:x=un:=by omega
     subst this
     exact .inr (.inr ⟨rfl,rfl,by omega,hp,by omega⟩)
    ·simp at h5
   have hS:aap (bs.drop a) most un n 0:=.inl ⟨hR,h1,h2,rfl⟩
   have HG:=hide hG
   have HS:=hide hS
   have HH:=hide h
   have hn1:a+n≤bs.length:=by omega
   have hn2:n≤10:=by omega
   clear hS hG hR hbd h he h1 h2
   go_enter Tryz.func232,Tryz.ntmps232
   go_wp2_with fail
   go_quiet ((go_at_call 151;refine Calls.quiet_of (ahs _ (bs.drop a) most un n 0 _ (eH.drewN _) (by omega) (by omega) (by omega) HS.out)))
   have r1:=HH.out.below (below_drewN (Below.refl _ _) nq)
   have R3:=hide ((r1.am5 (a+n) hn1).ah3 false)
   clear r1 eH hsl
   go_wp2
   go_ret
   exact⟨un,a+n,false,rfl,R3.out,aH (aH (jb _ _ _) (aB _ _ _)) (aB _ _ _),HG.out⟩
  ·have hG:Bm.SS bs most a false 0 a true:=by
    refine .inr (.inl ⟨rfl,rfl,rfl,rfl,fun y hy hp=>?_⟩)
    have:=Vm.uR hR (u:=y) (by omega) hp
    omega
   have hS:aap (bs.drop a) most 0 0 5:=.inr ⟨rfl,rfl,rfl,x,n,f,hR,hcase⟩
   have HG:=hide hG
   have HS:=hide hS
   have HH:=hide h
   clear hS hG hR h he hcase hu hi
   go_enter Tryz.func232,Tryz.ntmps232
   go_wp2_with fail
   go_quiet ((go_at_call 151;refine Calls.quiet_of (ahs _ (bs.drop a) most 0 0 5 _ (eH.drewN _) (by omega) (by omega) (by omega) HS.out)))
   have r1:=HH.out.below (below_drewN (Below.refl _ _) nq)
   have R3:=hide ((r1.am5 a ha).ah3 true)
   clear r1 eH hsl
   go_wp2
   go_ret
   exact⟨0,a,true,rfl,R3.out,aH (aH (jb _ _ _) (aB _ _ _)) (aB _ _ _),HG.out⟩
 ·have c2:=h.ahT
  have HH:=hide h
  clear h
  go_enter Tryz.func232,Tryz.ntmps232
  go_wp2
  go_ret
  exact⟨0,a,true,rfl,HH.out,World.grownBy.refl _ _,.inl ⟨rfl,rfl,rfl,rfl⟩⟩
theorem acU (w0 w:World)(g:Nat)(vb:Value)(bs:List Int)(a:Nat)(bad:Bool)(n:Nat)(h:fC w0 w g vb bs a bad)(hl:bs.length≤140737488355328)(hm:n<4611686018427387904):
  Calls Tryz.prog 243 #[.pointer (some ⟨g,0,none⟩),.int .i64 n] w fun E w'=>∃(s:ByteArray) (zs:List Int) (a':Nat) (bad':Bool),E=.returned (.string s)∧s.data.toList=Om.iK zs∧fC w0 w' g vb bs a' bad'∧w.grownBy w' (some g)∧Bm.BS bs n a bad zs a' bad':=by
 have c0:=h.cell0
 have c1:=h.cell1
 have f1:=h.lI 1
 have f2:=h.lI 2
 have ha:=h.2.2.2.2
 have hlen:=h.is.agF Tryz.kW
 cases bad
 ·have c2:=h.good
  by_cases hn:n≤bs.length-a
  ·obtain⟨vs,hsl,eH⟩:=h.is.uO Tryz.kW Tryz.mq a (a+n) (by omega) (by omega)
   rw[show a+n-a=n by omega]at eH
   have hsl2:∀wx,(Instr.slice 79 vb (some (.int .i64 (a:Int))) (some (.int .i64 ((a:Int)+(n:Int)))) none).run Tryz.prog wx=.ok vs wx:=by simpa using hsl
   have hwr:IntKind.i64.wrap ((a:Int)+(n:Int))=(a:Int)+n:=afI _ (by omega) (by omega)
   have ap0:=fun m=>(eH.drewN m).conv Tryz.underlying79 Tryz.underlying5 Tryz.underlying9
   clear hsl
   have hge:¬(bs.length:Int)-a<n:=by omega
   have HH:=hide h
   clear h
   go_enter Tryz.func243,Tryz.ntmps243
   go_wp2_with fail
   go_quiet (fail)
   go_wp2_with fail
   generalize nq=n1
   have avS:=fun m=>ap0 (n1+m)
   go_quiet (fail)
   have r1:=HH.out.below (below_drewN (Below.refl _ _) (n1+nq))
   have k1:=r1.cell1
   have g1:=r1.lI 1
   have R1:=hide r1
   clear r1 ap0 avS eH hsl2
   go_wp2
   go_ret
   exact⟨_,(bs.drop a).take n,a+n,false,rfl,by simp,R1.out.am5 (a+n) (by omega),aH (jb _ _ _) (aB _ _ _),.inr ⟨rfl,hn,rfl,rfl,rfl⟩⟩
  ·have hge:(bs.length:Int)-a<n:=by omega
   have HH:=hide h
   clear h
   go_enter Tryz.func243,Tryz.ntmps243
   go_wp2_with fail
   go_quiet (fail)
   go_wp2
   go_ret
   exact⟨_,[],a,true,rfl,rfl,(HH.out.below (below_drewN (Below.refl _ _) nq)).ah3 true,aH (jb _ _ _) (aB _ _ _),.inl ⟨.inr (by omega),rfl,rfl,rfl⟩⟩
 ·have c2:=h.ahT
  have HH:=hide h
  clear h
  go_enter Tryz.func243,Tryz.ntmps243
  go_wp2
  go_ret
  exact⟨_,[],a,true,rfl,rfl,HH.out,World.grownBy.refl _ _,.inl ⟨.inl rfl,rfl,rfl,rfl⟩⟩
theorem Tryz.amh:∀args w,(callFunc 243 args).run Tryz.prog w=.ok (.enter 243 args) w:=enters_of Tryz.func243 (by kernel_rfl) rfl
theorem apn {bs zs:List Int}{n sh a a':Nat}{bad bad':Bool}{s:ByteArray}(hs:s.data.toList=Om.iK zs)(h:Bm.BS bs n a bad zs a' bad')(hn:n≤16-sh)(hsh:sh≤16):¬9223372036854775807<sh+s.size:=by
 have:=Bm.adE h
 have e:=congrArg List.length hs
 rw[Om.jS,←Lib.size_eq]at e
 omega
theorem afX (w0 w:World)(g:Nat)(vb:Value)(bs:List Int)(a:Nat)(bad:Bool)(ah:ByteArray)(h:fC w0 w g vb bs a bad)(hl:bs.length≤140737488355328)(hah:ah.size≤16):
  Calls Tryz.prog 242 #[.pointer (some ⟨g,0,none⟩),.string ah] w fun E w'=>∃(k:ByteArray) (a':Nat) (bad':Bool),E=.returned (.string k)∧fC w0 w' g vb bs a' bad'∧w.grownBy w' (some g)∧Bm.KS bs a bad ah.data.toList k.data.toList a' bad':=by
 have hal:ah.data.toList.length=ah.size:=(Lib.size_eq ah).symm
 go_enter Tryz.func242,Tryz.ntmps242
 go_wp2_with fail
 refine(qj w0 w g vb bs a bad ah.size h hl (by omega)).mono ?_
 rintro E w1 ⟨sh,a1,jd,rfl,r1,sN,s1⟩
 have hsh:=Bm.uI s1
 have hsub:(16:Int)-sh=((16-sh:Nat):Int):=by omega
 have S1:=hide s1
 clear s1 h
 go_wp2_with fail
 refine(qj w0 w1 g vb bs a1 jd (16-sh) r1 hl (by omega)).mono ?_
 rintro E w2 ⟨n,a2,jy,rfl,r2,il,s2⟩
 have hn:=Bm.uI s2
 have S2:=hide s2
 have R2:=hide r2
 clear s2 r1 r2
 have X:Hid (∀m,Calls Tryz.prog 243 #[.pointer (some ⟨g,0,none⟩),.int .i64 n] (w2.drewN m) fun E w'=>∃v,E=.returned v∧∃(s:ByteArray) (zs:List Int) (a':Nat) (bad':Bool),v=.string s∧s.data.toList=Om.iK zs∧fC w0 w' g vb bs a' bad'∧(w2.drewN m).grownBy w' (some g)∧Bm.BS bs n a2 jy zs a' bad'):=
  hide fun m=>(acU w0 (w2.drewN m) g vb bs a2 jy n (R2.out.below (below_drewN (Below.refl _ _) m)) hl (by omega)).mono (by rintro E w' ⟨s,zs,a',bad',rfl,h⟩;exact⟨_,rfl,s,zs,a',bad',rfl,h⟩)
 go_wp2_with fail
 go_region_law (refine wh rfl 243 #[.tmp 19,.tmp 20] #[277,3] rfl Tryz.amh #[.pointer (some ⟨g,0,none⟩),.int .i64 n] (by simp[Act.eval,Act.put]) (X.out _) ?_;rintro vv w3 ⟨s,zs,a3,qg,rfl,hs,r3,zk,s3⟩;have hss:=apn hs s3 hn (by omega))
 all_goals
  have hsz:s.size≤16:=by
   have:=Bm.adE s3
   have e:=congrArg List.length hs
   rw[Om.jS,←Lib.size_eq]at e
   omega
  have hdat:(ah.extract 0 sh++s).data.toList=ah.data.toList.take sh++Om.iK zs:=by rw[←hs];simp
  have hksz:(ah.extract 0 sh++s).size≤32:=by rw[Lib.size_eq,hdat,List.length_append,←hs,←Lib.size_eq,List.length_take];omega
  have gr:w.grownBy w3 (some g):=aH sN (aH il (aH (jb _ 1 _) zk))
  generalize ah.extract 0 sh++s=K at*
  rw[←hal]at S1
  have HK:∀bad',bad'=(qg||decide (Bm.com ah.data.toList K.data.toList≠sh))→Bm.KS bs a bad ah.data.toList K.data.toList a3 bad':=fun bad' e=>⟨sh,n,zs,a1,jd,a2,jy,qg,S1.out,S2.out,s3,hdat,e⟩
  have HK:=hide HK
  clear hdat hs s3 sN il zk X hss
  have f2:=r3.lI 2
  cases qg
  ·have c2:=r3.good
   have R3:=hide r3
   clear r3
   go_wp2_with fail
   refine(uh ah K _ (by omega) (by omega)).mono ?_
   rintro E w4 ⟨rfl,aM⟩
   have r4:=R3.out.below aM
   have f4:=r4.lI 2
   have d2:=r4.good
   have R4:=hide r4
   have vS:w.grownBy w4 (some g):=aH gr (kF aM _)
   clear r4 R3 aM gr c2 f2
   by_cases hc:Bm.com ah.data.toList K.data.toList=sh
   ·have hb:((Bm.com ah.data.toList K.data.toList:Int) !=(sh:Int))=false:=by rw[hc];simp
    have HK2:=hide (HK.out false (by simp[hc]))
    clear hc
    go_wp2
    go_ret
    exact⟨K,a3,false,rfl,R4.out,vS,HK2.out⟩
   ·have hb:((Bm.com ah.data.toList K.data.toList:Int) !=(sh:Int))=true:=by simp;omega
    have HK2:=hide (HK.out true (by simp[hc]))
    clear hc
    go_wp2
    go_ret
    exact⟨K,a3,true,rfl,R4.out.ah3 true,aH vS (aB _ _ _),HK2.out⟩
  ·have c2:=r3.ahT
   have R3:=hide r3
   clear r3
   go_wp2
   go_ret
   exact⟨K,a3,true,rfl,R3.out,gr,HK.out true (by simp)⟩
theorem arY (w0 w:World)(g:Nat)(vb:Value)(bs:List Int)(a:Nat)(bad:Bool)(ah:ByteArray)(h:fC w0 w g vb bs a bad)(hl:bs.length≤140737488355328)(hah:ah.size≤16):
  Calls Tryz.prog 233 #[.pointer (some ⟨g,0,none⟩),.string ah] w fun E w'=>∃(o:Bm.Ov) (a':Nat) (bad':Bool),E=.returned (xG o.p o.k o.v)∧fC w0 w' g vb bs a' bad'∧w.grownBy w' (some g)∧Bm.OS bs a bad ah.data.toList o a' bad'∧o.k.size≤16∧o.v.size≤32:=by
 unfold xG
 have hby:=h.is.bytes
 have hg:=h.lt
 have hw0:=h.2.2.1.size
 obtain⟨W,hW,szW,uo,atV⟩:=ak w #[.bool false,.string ⟨#[]⟩,.string ⟨#[]⟩] 92
 have r0:=h.below uo
 have grW:=kF uo (some g)
 have HBY:=hide hby
 clear h hby
 go_enter Tryz.func233,Tryz.ntmps233
 go_wp2_with fail
 refine(qj w0 W g vb bs a bad 1 r0 hl (by omega)).mono ?_
 rintro E w1 ⟨mark,a1,jd,rfl,r1,sN,s1⟩
 have aW:=sN.size
 have adF:=(sN.block w.heap.size (by omega) (by simp;omega)).trans atV
 have hmark:=Bm.uI s1
 have grA:w.grownBy w1 (some g):=aH grW sN
 clear r0 grW sN atV uo hW
 rcases(show mark=0∨mark=1 by omega)with rfl|rfl
 ·have S1:=hide s1
  clear s1
  go_wp2_with fail
  refine(afX w0 w1 g vb bs a1 jd ah r1 hl hah).mono ?_
  rintro E w2 ⟨k,a2,jy,rfl,r2,il,ks⟩
  have di:=il.size
  have aaE:=(il.block w.heap.size (by omega) (by simp;omega)).trans adF
  obtain⟨W3,hW3,bP,aF,iP⟩:=ak w2 #[.bool false,.string k,.string ⟨#[]⟩] 92
  have O0:=aC iP 0
  have O1:=aC iP 1
  have O2:=aC iP 2
  have x0:W3.setCell ⟨w2.heap.size,0,none⟩ (.bool false)=W3:=aL iP (j:=0) rfl
  have x1:W3.setCell ⟨w2.heap.size,1,none⟩ (.string k)=W3:=aL iP (j:=1) rfl
  have x2:W3.setCell ⟨w2.heap.size,2,none⟩ (.string ⟨#[]⟩)=W3:=aL iP (j:=2) rfl
  have r3:=r2.below aF
  have mI:=(aF.block w.heap.size (by omega)).trans aaE
  have o0:W3.cell? ⟨w2.heap.size,0,none⟩=some (.bool false):=ai iP 0 rfl
  have o1:W3.cell? ⟨w2.heap.size,1,none⟩=some (.string k):=ai iP 1 rfl
  have o2:W3.cell? ⟨w2.heap.size,2,none⟩=some (.string ⟨#[]⟩):=ai iP 2 rfl
  have R0:W3.cell? ⟨w.heap.size,0,none⟩=some (.bool false):=ai mI 0 rfl
  have R1:W3.cell? ⟨w.heap.size,1,none⟩=some (.string ⟨#[]⟩):=ai mI 1 rfl
  have R2:W3.cell? ⟨w.heap.size,2,none⟩=some (.string ⟨#[]⟩):=ai mI 2 rfl
  have F0:=aC mI 0
  have F1:=aC mI 1
  have F2:=aC mI 2
  obtain⟨V',hV',dG,bQ⟩:=apD mI (.bool false) (.string k) (.string ⟨#[]⟩)
  have k0:V'.cell? ⟨w.heap.size,0,none⟩=some (.bool false):=ai dG 0 rfl
  have k1:V'.cell? ⟨w.heap.size,1,none⟩=some (.string k):=ai dG 1 rfl
  have k2:V'.cell? ⟨w.heap.size,2,none⟩=some (.string ⟨#[]⟩):=ai dG 2 rfl
  have grB:w.grownBy V' (some g):=grown_fresh (aH (aH grA il) (kF aF _)) bQ (Nat.le_refl _)
  have rV:fC w0 V' g vb bs a2 jy:=r3.grown bQ hw0 (by omega)
  have hOS:Bm.OS bs a bad ah.data.toList ⟨false,k,⟨#[]⟩⟩ a2 jy:=Bm.avr HBY.out S1.out ks rfl rfl rfl
  have hkl:=Bm.alE ks (by rw[←Lib.size_eq];exact hah)
  rw[←Lib.size_eq]at hkl
  have RV:=hide rV
  have OS:=hide hOS
  clear ks r1 r2 r3 adF aaE mI iP dG bQ rV hOS grA il aF
  go_wp2
  refine bodyPost_ret (v:=.agg #[.bool false,.string k,.string ⟨#[]⟩]) (by simp[results,Tryz.results233,go_sem,k0,k1,k2]) rfl ?_
  exact⟨⟨false,k,⟨#[]⟩⟩,a2,jy,rfl,RV.out,grB,OS.out,hkl,by simp[ByteArray.size]⟩
 ·have S1:=hide s1
  clear s1
  go_wp2_with fail
  refine(afX w0 w1 g vb bs a1 jd ah r1 hl hah).mono ?_
  rintro E w2 ⟨k,a2,jy,rfl,r2,il,ks⟩
  have di:=il.size
  have aaE:=(il.block w.heap.size (by omega) (by simp;omega)).trans adF
  obtain⟨W3,hW3,bP,aF,iP⟩:=ak w2 #[.bool true,.string k,.string ⟨#[]⟩] 92
  have O0:=aC iP 0
  have O1:=aC iP 1
  have O2:=aC iP 2
  have x0:W3.setCell ⟨w2.heap.size,0,none⟩ (.bool true)=W3:=aL iP (j:=0) rfl
  have x1:W3.setCell ⟨w2.heap.size,1,none⟩ (.string k)=W3:=aL iP (j:=1) rfl
  have x2:W3.setCell ⟨w2.heap.size,2,none⟩ (.string ⟨#[]⟩)=W3:=aL iP (j:=2) rfl
  have r3:=r2.below aF
  have mI:=(aF.block w.heap.size (by omega)).trans aaE
  have o0:W3.cell? ⟨w2.heap.size,0,none⟩=some (.bool true):=ai iP 0 rfl
  have o1:W3.cell? ⟨w2.heap.size,1,none⟩=some (.string k):=ai iP 1 rfl
  have o2:W3.cell? ⟨w2.heap.size,2,none⟩=some (.string ⟨#[]⟩):=ai iP 2 rfl
  have grB:w.grownBy W3 (some g):=aH (aH grA il) (kF aF _)
  have hkl:=Bm.alE ks (by rw[←Lib.size_eq];exact hah)
  rw[←Lib.size_eq]at hkl
  have KS:=hide ks
  clear ks r1 r2 grA il aF adF aaE
  go_wp2_with fail
  refine(qj w0 W3 g vb bs a2 jy 32 r3 hl (by omega)).mono ?_
  rintro E w4 ⟨n,a4,jA,rfl,r4,vS,s4⟩
  have hn:=Bm.uI s4
  have lT:=vS.size
  have aqf:=(vS.block w.heap.size (by omega) (by simp;omega)).trans mI
  have aq3:=(vS.block w2.heap.size (by omega) (by simp;omega)).trans iP
  have S4:=hide s4
  clear s4
  go_wp2_with fail
  refine(acU w0 w4 g vb bs a4 jA n r4 hl (by omega)).mono ?_
  rintro E w5 ⟨s,ys,a5,um,rfl,hs,r5,gr5,s5⟩
  have sH:=gr5.size
  have aqE:=(gr5.block w.heap.size (by omega) (by simp;omega)).trans aqf
  have adY:=(gr5.block w2.heap.size (by omega) (by simp;omega)).trans aq3
  have p2:w5.cell? ⟨w2.heap.size,2,none⟩=some (.string ⟨#[]⟩):=ai adY 2 rfl
  have q2:=aC adY 2
  obtain⟨W6,hW6⟩:∃W6,w5.setCell ⟨w2.heap.size,2,none⟩ (.string s)=W6:=⟨_,rfl⟩
  have adR:W6.heap[w2.heap.size]? =some (.cells #[.bool true,.string k,.string s] 92 (0,0)):=by rw[←hW6];exact aI adY 2 (.string s)
  have gr6:w5.grownBy W6 (some w2.heap.size):=by rw[←hW6];exact aB w5 ⟨w2.heap.size,2,none⟩ _
  have lV:=gr6.size
  have qU:=(gr6.block w.heap.size (by omega) (by simp;omega)).trans aqE
  have r6:=r5.grown gr6 (by omega) (by omega)
  have o0:W6.cell? ⟨w2.heap.size,0,none⟩=some (.bool true):=ai adR 0 rfl
  have o1:W6.cell? ⟨w2.heap.size,1,none⟩=some (.string k):=ai adR 1 rfl
  have o2:W6.cell? ⟨w2.heap.size,2,none⟩=some (.string s):=ai adR 2 rfl
  have R0:W6.cell? ⟨w.heap.size,0,none⟩=some (.bool false):=ai qU 0 rfl
  have R1:W6.cell? ⟨w.heap.size,1,none⟩=some (.string ⟨#[]⟩):=ai qU 1 rfl
  have R2:W6.cell? ⟨w.heap.size,2,none⟩=some (.string ⟨#[]⟩):=ai qU 2 rfl
  have F0:=aC qU 0
  have F1:=aC qU 1
  have F2:=aC qU 2
  obtain⟨V',hV',dG,bQ⟩:=apD qU (.bool true) (.string k) (.string s)
  have k0:V'.cell? ⟨w.heap.size,0,none⟩=some (.bool true):=ai dG 0 rfl
  have k1:V'.cell? ⟨w.heap.size,1,none⟩=some (.string k):=ai dG 1 rfl
  have k2:V'.cell? ⟨w.heap.size,2,none⟩=some (.string s):=ai dG 2 rfl
  have grC:w.grownBy V' (some g):=grown_fresh (grown_fresh (aH (aH grB vS) gr5) gr6 (by omega)) bQ (Nat.le_refl _)
  have rV:fC w0 V' g vb bs a5 um:=r6.grown bQ hw0 (by omega)
  have hOS:Bm.OS bs a bad ah.data.toList ⟨true,k,s⟩ a5 um:=Bm.aub HBY.out S1.out KS.out rfl rfl hs S4.out s5
  have hsl:s.size≤32:=by
   have:=Bm.adE s5
   have e:=congrArg List.length hs
   rw[Om.jS,←Lib.size_eq]at e
   omega
  have RV:=hide rV
  have OS:=hide hOS
  clear hs s5 r4 r5 r6 rV hOS mI aqf aqE qU iP aq3 adY adR dG bQ grB vS gr5 gr6
  go_wp2
  refine bodyPost_ret (v:=.agg #[.bool true,.string k,.string s]) (by simp[results,Tryz.results233,go_sem,k0,k1,k2]) rfl ?_
  exact⟨⟨true,k,s⟩,a5,um,rfl,RV.out,grC,OS.out,hkl,hsl⟩
def qH (l:List Bm.Ov):Prop:=∀o∈l,o.k.size≤16∧o.v.size≤32
theorem qH.fit {l:List Bm.Ov}(h:qH l):iR l:=fun o ho=>by have:=h o ho;omega
theorem qH.snoc {l:List Bm.Ov}{o:Bm.Ov}(h:qH l)(h1:o.k.size≤16)(h2:o.v.size≤32):qH (l++[o]):=by
 intro x hx
 rcases List.mem_append.1 hx with hx|hx
 ·exact h x hx
 ·rw[List.mem_singleton.1 hx];exact⟨h1,h2⟩
theorem mZ {l:List Bm.Ov}(h:Bm.dY l=0):qH l:=by
 intro o ho
 have:=Om.iJ ((Bm.dI h).2.2 o ho)
 simp only[Bm.Ov.kl,Bm.Ov.vl,←Lib.size_eq]at this
 omega
theorem alx (vb:Value)(bs:List Int)(w:World)(hb:Is .u8 w vb bs)(hl:bs.length≤140737488355328):
  Calls Tryz.prog 214 #[vb] w fun E w'=>∃(vl:Value) (l:List Bm.Ov) (n e:Int),E=.returned (.tuple #[vl,.int .i64 n,.int .i64 e])∧bz 92 w.heap.size w' vl l∧Bm.aey bs l n e∧Below w.heap.size w w':=by
 obtain⟨i0,hi,hz0,hz1,hz2⟩:=info_parts Tryz.aff
 obtain⟨ao,cap,rfl,_,_⟩:=hb.shape
 obtain⟨W1,hW1,aW,aj,qh⟩:=ak w #[.slice ao bs.length cap,.int .i64 0,.int .i64 0] 269
 have r1:fC w W1 w.heap.size (.slice ao bs.length cap) bs 0 false:=⟨hb,by omega,aj,qh,by omega⟩
 have c0:W1.cell? ⟨w.heap.size,0,none⟩=some (.slice ao bs.length cap):=ai qh 0 rfl
 have c1:W1.cell? ⟨w.heap.size,1,none⟩=some (.int .i64 0):=ai qh 1 rfl
 have c2:W1.cell? ⟨w.heap.size,2,none⟩=some (.int .i64 0):=ai qh 2 rfl
 have f0:=aC qh 0
 have f1:=aC qh 1
 have f2:=aC qh 2
 have x0:W1.setCell ⟨w.heap.size,0,none⟩ (.slice ao bs.length cap)=W1:=aL qh (j:=0) rfl
 have x1:W1.setCell ⟨w.heap.size,1,none⟩ (.int .i64 0)=W1:=aL qh (j:=1) rfl
 have x2:W1.setCell ⟨w.heap.size,2,none⟩ (.int .i64 0)=W1:=aL qh (j:=2) rfl
 clear qh
 go_enter Tryz.func214,Tryz.ntmps214
 go_wp2_with fail
 refine(qj w W1 w.heap.size _ bs 0 false 8 r1 hl (by omega)).mono ?_
 rintro E w2 ⟨c,a2,jy,rfl,r2,il,s2⟩
 have hc8:=Bm.uI s2
 have di:=il.size
 have LS0:=hide (Bm.am6 s2)
 clear s2 r1
 go_wp2_with (at_make;refine wpList_make_own _ rfl _ _ 63 rfl (w.heap.size+1) 92 i0 (.agg #[.bool false,.string ⟨#[]⟩,.string ⟨#[]⟩]) 3 Tryz.underlying63 hi hz0 hz1 _ _ _ c rfl rfl (by omega) ?b2 ?b3 (by omega) ?_)
 case b2=>rw[hz2];omega
 case b3=>unfold maxLen;omega
 intro w3 hown3 hgrow3
 have aF:Below w2.heap.size w2 w3:=(Below.refl _ _).grown hgrow3 (Nat.le_refl _) (by simp)
 have bI:bz 92 (w.heap.size+1) w3 (.slice (some ⟨w2.heap.size,0,none⟩) 0 c) []:=hown3
 have r3:=r2.below aF
 have bP:=aF.size
 clear r2 aF hown3 hgrow3 il c0 c1 c2 f0 f1 f2 x0 x1 x2 hW1 aj
 go_wp2
 go_loopw [2,7,15] (fun lv av i wr=>∃(k:Nat) (l:List Bm.Ov) (ah:ByteArray) (a:Nat) (bad:Bool),k≤c∧i=.int .i64 k∧av=.string ah∧ah.size≤16∧l.length=k∧Hid (qH l)∧bz 92 (w.heap.size+1) wr lv l∧fC w wr w.heap.size (.slice ao bs.length cap) bs a bad∧Hid (Bm.LS bs c l a bad ah.data.toList)) (fun _ _ i _=>c-(intOf i).toNat)
 case atStart=>exact⟨0,[],⟨#[]⟩,a2,jy,by omega,rfl,rfl,by simp[ByteArray.size],rfl,hide (fun o ho=>by simp at ho),bI,r3,LS0⟩
 case round=>
  obtain⟨k,l,ah,a,bad,hk,rfl,rfl,hah,hlk,HS,own,r,L⟩:=hrel
  have hgl:=r.lt
  by_cases hlt:k<c
  ·have hlt':(k:Int)<c:=by omega
   go_wp2_with fail
   refine(arY w wr w.heap.size _ bs a bad ah r hl hah).mono ?_
   rintro E w4 ⟨o,a4,jA,rfl,r4,vS,os4,hok,hov⟩
   unfold xG
   have lT:=vS.size
   have bf:=own.kept vS (by
    rcases hv:Value.ownBlock _ with _|b
    ·exact .inl rfl
    ·refine .inr fun e=>?_
     have:=own.block b hv
     simp at e
     omega)
   have aqD:=bf.block
   have L4:=hide (Bm.asA L.out (by omega) os4)
   have HS4:=hide (HS.out.snoc hok hov)
   obtain⟨w5,sS,sH,bn,qF⟩:=ak w4 #[.bool o.p,.string o.k,.string o.v] 92
   have p0:w5.cell? ⟨w4.heap.size,0,none⟩=some (.bool o.p):=ai qF 0 rfl
   have p1:w5.cell? ⟨w4.heap.size,1,none⟩=some (.string o.k):=ai qF 1 rfl
   have p2:w5.cell? ⟨w4.heap.size,2,none⟩=some (.string o.v):=ai qF 2 rfl
   have q0:=aC qF 0
   have q1:=aC qF 1
   have q2:=aC qF 2
   have x0:w5.setCell ⟨w4.heap.size,0,none⟩ (.bool o.p)=w5:=aL qF (j:=0) rfl
   have x1:w5.setCell ⟨w4.heap.size,1,none⟩ (.string o.k)=w5:=aL qF (j:=1) rfl
   have x2:w5.setCell ⟨w4.heap.size,2,none⟩ (.string o.v)=w5:=aL qF (j:=2) rfl
   have dA:=bf.below bn
   have r5:=r4.below bn
   obtain⟨w6,tO,lV,eZ,fZ⟩:=zF 92 w5 #[.bool o.p,.string o.k,.string o.v] 1 [o] rfl rfl (by simp[maxLen])
   rw[sH]at fZ
   have jV:=dA.below eZ
   have r6:=r5.below eZ
   have auk:=(eZ.block w4.heap.size (by omega)).trans qF
   have B6:=hide auk
   have R6:=hide r6
   clear os4 own bf dA r r4 r5 r6 qF auk bn eZ vS L HS
   go_wp2_with (at_builtin;refine pE rfl (.tmp 19) (.tmp 21) 63 rfl 92 (w.heap.size+1) Tryz.underlying63 Tryz.aff _ l rfl jV _ [o] rfl fZ.is (by simp;omega) (by omega) ?_)
   intro v8 w8 oL lF gr8
   have aug:=(gr8.block w4.heap.size (by omega) (fun e=>by have:=aqD _ e.symm;omega)).trans B6.out
   have r8:fC w w8 w.heap.size (.slice ao bs.length cap) bs a4 jA:=by
    obtain⟨h1,h2,h3,h4,h5⟩:=R6.out
    have hs:=h3.size
    exact⟨h1,h2,h3.trans (lF.mono (by omega)),(lF.block w.heap.size (by omega)).trans h4,h5⟩
   have k1:w8.cell? ⟨w4.heap.size,1,none⟩=some (.string o.k):=ai aug 1 rfl
   clear aug jV fZ gr8 lF B6 R6 p0 p1 p2 q0 q1 q2 x0 x1 x2 aqD sS tO
   go_wp2
   go_roundw
   case rel=>exact⟨k+1,l++[o],o.k,a4,jA,by omega,by go_num,rfl,hok,by simp[hlk],HS4,oL,r8,L4⟩
   case measure=>simp[intOf];omega
  ·have hke:k=c:=by omega
   have hlt':¬(k:Int)<c:=by omega
   have fw:Below w.heap.size w wr:=r.2.2.1
   cases bad
   ·have e2:=r.good
    have e1:=r.cell1
    have R:=hide r
    clear r
    by_cases hc:Bm.dY l=0
    ·have HR:=hide (Bm.avz L.out (by omega) hc)
     have HC:=hide hc
     clear hc L
     go_wp2_with fail
     refine(mG _ l _ own.is HS.out.fit (by omega)).mono ?_
     rintro E w9 ⟨rfl,gJ⟩
     rw[HC.out]
     have r9:=R.out.below gJ
     have e19:=r9.cell1
     have abI:=(own.below gJ).bB (base':=w.heap.size) (by omega)
     have uQ:Below w.heap.size w w9:=fw.trans (gJ.mono fw.size)
     clear own r9 gJ
     go_wp2_with fail
     go_quiet (fail)
     go_wp2
     refine bodyPost_ret (v:=.tuple #[_,.int .i64 (a:Int),.int .i64 0]) (by simp[results,Tryz.results214,go_sem];rfl) rfl ?_
     exact⟨_,l,_,_,rfl,abI.below (below_drewN (Below.refl _ _) nq),HR.out,below_drewN uQ nq⟩
    ·have HR:=hide (Bm.aj9 L.out (fun _=>by omega) (.inr hc))
     obtain⟨cc,hcc⟩:∃cc,Bm.dY l=cc:=⟨_,rfl⟩
     have hcb:(cc !=0)=true:=by rw[←hcc];simpa using hc
     have HC:=hide hcc
     clear hc L hcc
     go_wp2_with fail
     refine(mG _ l _ own.is HS.out.fit (by omega)).mono ?_
     rintro E w9 ⟨rfl,gJ⟩
     rw[HC.out]
     have uQ:Below w.heap.size w w9:=fw.trans (gJ.mono fw.size)
     go_wp2
     refine bodyPost_ret (v:=.tuple #[.slice none 0 0,.int .i64 0,.int .i64 5]) (by simp[results,Tryz.results214,go_sem]) rfl ?_
     exact⟨_,[],_,_,rfl,bz.nil _ _ _,HR.out,uQ⟩
   ·have e2:=r.ahT
    have HR:=hide (Bm.aj9 L.out (fun h=>by simp at h) (.inl rfl))
    clear L r
    go_wp2
    refine bodyPost_ret (v:=.tuple #[.slice none 0 0,.int .i64 0,.int .i64 5]) (by simp[results,Tryz.results214,go_sem]) rfl ?_
    exact⟨_,[],_,_,rfl,bz.nil _ _ _,HR.out,fw⟩
theorem aaQ (vl:Value)(r:List Cw)(w:World)(h:eX w vl r)(hone:∀c∈r,c.v.oneCell'=true)(hl:r.length≤1048576):
  Calls Tryz.prog 103 #[vl] w fun e w'=>∃v,e=.returned v∧bD 65 w.heap.size w' v r∧Below w.heap.size w w':=by
 have q:∀(w:World) (a:Option Addr) (n c n' c':Nat),(binOp .eql 26 (.slice a n c) (.slice none n' c')).run Tryz.prog w=.ok (.bool a.isNone) w:=fun w a n c n' c'=>Lib.run_eql_slice_nil w _ _ a n c n' c' Tryz.underlying26
 by_cases hn:vl=.slice none 0 0
 ·subst hn
  have:r=[]:=by
   rcases h with⟨_,h⟩|⟨ad,cap,h,_⟩
   ·exact h
   ·simp at h
  subst this
  clear h hl
  go_enter Tryz.func103,Tryz.ntmps103
  go_wp2
  go_ret
  exact⟨_,rfl,bD.nil _ _ _,Below.refl _ _⟩
 ·obtain⟨ad,cap,rfl⟩:∃ad cap,vl=.slice (some ad) r.length cap:=by
   rcases h with⟨h,_⟩|⟨ad,cap,h,_⟩
   ·exact absurd h hn
   ·exact⟨ad,cap,h⟩
  clear hn
  obtain⟨w1,hw1,aW,aj,aZ⟩:=kC 65 w #[] 0 [] rfl rfl (by simp[maxLen])
  have h1:=h.below aj
  go_enter Tryz.func103,Tryz.ntmps103
  go_wp2_with (at_builtin;refine kr rfl (.tmp 5) (.tmp 6) 26 rfl 65 w.heap.size Tryz.underlying26 Tryz.nO _ [] rfl aZ _ r rfl h1 hone (by simp;omega) (by omega) ?_)
  intro v2 w2 aT au _
  go_wp2
  go_ret
  exact⟨_,rfl,by simpa using aT,aj.trans au⟩
def Run (B:Nat) (Q:Int→World→Prop):List Value→World→Prop
 |[],w=>Q 0 w
 |v::vs,w=>∃f first cap,v=.func (.func f) first cap∧(∀args w,(callFunc f args).run Tryz.prog w=.ok (.enter f args) w)∧Calls Tryz.prog f (first++cap) w fun E w'=>∃e,E=.returned (.int .i64 e)∧w'.heap[B]? =w.heap[B]?∧((e≠0∧Q e w')∨(e=0∧Run B Q vs w'))
theorem Run.cons {B:Nat}{Q:Int→World→Prop}{f:FuncId}{first cap xs:Array Value}{vs:List Value}{w:World}(eg:∀args w,(callFunc f args).run Tryz.prog w=.ok (.enter f args) w)(ha:first++cap=xs)(hc:Calls Tryz.prog f xs w fun E w'=>∃e,E=.returned (.int .i64 e)∧w'.heap[B]? =w.heap[B]?∧((e≠0∧Q e w')∨(e=0∧Run B Q vs w'))):Run B Q (.func (.func f) first cap::vs) w:=
 ⟨f,first,cap,rfl,eg,by rw[ha];exact hc⟩
theorem rQ (B n:Nat)(fs:List Value)(w:World)(Q:Int→World→Prop)(hn:fs.length=n)(hl:n≤100)(hB:w.heap[B]? =some (.cells fs.toArray 132 (0,0)))(h:Run B Q fs w):
  Calls Tryz.prog 30 #[.slice (some ⟨B,0,none⟩) n n] w fun E w'=>∃e,E=.returned (.int .i64 e)∧Q e w':=by
 have H:=hide (And.intro hB h)
 have HN:=hide hn
 clear hB h hn
 go_enter Tryz.func30,Tryz.ntmps30
 go_wp2
 go_loopw [8] (fun iv wr=>∃(k:Nat),iv=.int .i64 k∧k≤n∧Hid (wr.heap[B]? =some (.cells fs.toArray 132 (0,0))∧Run B Q (fs.drop k) wr)) (fun iv _=>n-(intOf iv).toNat)
 case atStart=>exact⟨0,rfl,Nat.zero_le _,hide (by rw[List.drop_zero];exact H.out)⟩
 case round=>
  obtain⟨k,rfl,hk,HH⟩:=hrel
  by_cases hlt:k<n
  ·obtain⟨hb,hr⟩:=HH.out
   have hkl:k<fs.length:=by rw[HN.out];exact hlt
   rw[List.drop_eq_getElem_cons hkl]at hr
   obtain⟨f,first,cap,hv,eg,hc⟩:=hr
   have cell:wr.cell? ⟨B,k,none⟩=some (.func (.func f) first cap):=ai hb k (by simp[List.getElem?_eq_getElem hkl,hv])
   have HC:=hide hc
   have HB:=hide hb
   have hlt':(k:Int)<n:=by omega
   clear hc hb hv HH
   go_wp2_with fail
   refine HC.out.mono ?_
   rintro E w' ⟨e,rfl,hb',hd⟩
   rcases hd with⟨he,hq⟩|⟨rfl,hq⟩
   ·have HQ:=hide hq
    clear hq hb' HC
    have he':(e==0)=false:=by simpa using he
    go_wp2
    go_ret
    exact⟨e,rfl,HQ.out⟩
   ·have HQ:=hide (And.intro (hb'.trans HB.out) hq)
    clear hq hb' HC
    go_wp2
    go_roundw
    case rel=>exact⟨k+1,by simp,by omega,HQ⟩
    case measure=>simp[intOf];omega
  ·obtain rfl:k=n:=by omega
   have hr:=HH.out.2
   rw[List.drop_eq_nil_of_le (by rw[HN.out];exact Nat.le_refl _)]at hr
   have HR:Hid (Q 0 wr):=hide hr
   clear hr HH
   have hlt':¬(k:Int)<k:=by omega
   go_wp2
   go_ret
   exact⟨0,rfl,HR.out⟩
end Go.Proofs.YtjemlgdkjilnoaaGreatDoor
