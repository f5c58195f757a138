/- Proved: opening a disk again changes nothing, and reads are always the whole log put together. Its condition: the start, in which the variable page.most holds what its text lays (a card). -/
import Derived.Test.YtpifdeoepppadaaGreatDoorH29
import Derived.Test.YtpifdeoepppadaaGreatDoorH24
import Derived.Test.YtpifdeoepppadaaGreatDoorH31
import Derived.Test.YtpifdeoepppadaaGreatDoorH27
import Derived.Deep.RegionHeld3
import Derived.Deep.CutRange
import Derived.Test.YtpifdeoepppadaaGreatDoorCards
import Derived.Test.YtpifdeoepppadaaGreatDoorTie
import Derived.Deep.DeepHandedRow
import Derived.Lib.LaidTab
import Derived.Shelf.LaysM
import Derived.Test.YtpifdeoepppadaaGreatDoorRows
import Derived.ProofKit
import Derived.OpenShut
import Derived.ShutString
import Derived.ChangeOld
import Derived.Below
import Derived.SizedLaws
import Derived.Test.YtpifdeoepppadaaGreatDoorH26
set_option maxRecDepth 100000
set_option maxHeartbeats 8000000
namespace Go.Proofs.YtpifdeoepppadaaGreatDoor
open Go.RowKit
set_option linter.unusedVariables false
structure Twi (w0 w:World) (p p2 q tp tb:Nat) (F F2:Nat→Prop) (s:Rst.St) (n:Nat):Prop where
 a:Lv w0 w p q F s
 b:Lv w0 w p2 q F2 s
 t:Tb tp tb w (Sto.fold (Rst.aZ s))
 z:Rz n s
theorem Twi.below {w0 w w':World}{p p2 q tp tb:Nat}{F F2:Nat→Prop}{s:Rst.St}{n:Nat}(h:Twi w0 w p p2 q tp tb F F2 s n)(hb:Below w.heap.size w w'):Twi w0 w' p p2 q tp tb F F2 s n:=⟨h.a.below hb,h.b.below hb,h.t.below hb,h.z⟩
theorem anw {x:Int}(h:In64 x):I64 x:=⟨h.1,by have:=h.2;omega⟩
theorem zZ (v:Value)(l:List ik)(vk:Value)(ks:List ByteArray)(w:World)(h:kW w v l)(hf:yu l)(hl:l.length*136≤140737488351232)(hks:IsS w vk ks)(hfk:aoB ks)(hlk:ks.length*16≤140737488351232)(hm:ib w):
  Calls Tryz.prog 6 #[v,vk] w fun E w'=>E=.returned (.bool true)∧Below w.heap.size w w':=by
 have HM:=hide hm
 have LI:=hide (om w hm)
 have HA:=hide h
 have HF:=hide hf
 have HK:=hide hks
 have HFK:=hide hfk
 obtain⟨ao,cap,hv,hc1,hc2⟩:=h.shape
 obtain⟨ko,aAJ,hvk,hk1,hk2⟩:=iJ.shape hks
 rw[hv]at HA
 rw[hvk]at HK
 subst hv hvk
 clear hm h hf hks hfk
 go_enter Tryz.func6,Tryz.ntmps6
 go_wp2_with fail
 refine LI.out.mono ?_
 rintro E w1 ⟨rfl,B1⟩
 have B1:=hide B1
 have SM:=hide (aaK _ l w1 (HA.out.below B1.out) (by omega))
 clear LI
 go_wp2_with fail
 refine SM.out.mono ?_
 rintro E w2 ⟨rfl,hw2⟩
 obtain rfl:=hw2
 clear SM
 cases hsm:nK l with
 |false=>
  go_wp2
  go_ret
  exact⟨rfl,B1.out⟩
 |true=>
 by_cases hk40:40<ks.length
 ·have azA:(40:Int)<ks.length:=by omega
  go_wp2
  go_ret
  exact⟨rfl,B1.out⟩
 have azA:¬(40:Int)<ks.length:=by omega
 have SMI:=hide (ahr.1 hsm)
 have akR:=SMI.out.1
 have HA1:=hide (HA.out.below B1.out)
 have HK1:Hid (IsS w2 (.slice ko ks.length aAJ) ks):=hide (HK.out.below B1.out)
 have NW:=hide (uO w2)
 clear hsm HA HK
 go_wp2_with fail
 refine NW.out.mono ?_
 rintro E w3 ⟨rfl,K3,B3⟩
 have OP:=hide (vP w2 (HM.out.below B1.out) 1 (.inr rfl) w2.heap.size (Nat.le_refl _) w3 K3 B3)
 obtain⟨q,hq⟩:∃q,w2.heap.size=q:=⟨_,rfl⟩
 rw[hq]at OP⊢
 clear NW K3 B3 hq
 go_wp2_with fail
 refine OP.out.mono ?_
 rintro E w4 ⟨p,F,rfl,L4⟩
 have L4:=hide L4
 have TN:=hide (abh w4)
 clear OP
 go_wp2_with fail
 refine TN.out.mono ?_
 rintro E w5 ⟨rfl,T5,B5⟩
 have A0:Hid (∃F s,mO w2 w5 p q (w4.heap.size+1) w4.heap.size F s 1):=hide ⟨F,_,L4.out.below B5,⟨[],Rst.yK _ (by decide)⟩,rfl,⟨uw.mono (by omega) (by omega),by simp,acI⟩,T5,by
  show(Sto.fold _).length≤_
  decide,⟨fun e=>by have:=L4.out.st.lt _ e;omega,fun e=>by have:=L4.out.st.lt _ e;omega⟩,by have:=L4.out.aF.size;omega⟩
 obtain⟨tp,htp⟩:∃x,w4.heap.size+1=x:=⟨_,rfl⟩
 obtain⟨tb,htb⟩:∃x,w4.heap.size=x:=⟨_,rfl⟩
 rw[htp]at A0⊢
 rw[htb]at A0
 clear TN T5 B5 L4 htp htb
 go_wp2
 go_loopw [9] (fun iv wr=>∃i:Nat,i≤l.length∧iv=.int .i64 i∧Hid (∃F s,mO w2 wr p q tp tb F s (i+1))) (fun iv _=>l.length-(intOf iv).toNat)
 case atStart=>exact⟨0,by omega,rfl,A0⟩
 case round=>
  clear A0
  obtain⟨i,hi,rfl,A⟩:=hrel
  obtain⟨F1,s,AG⟩:=A.out
  have AG:=hide AG
  clear A
  by_cases hlt:i<l.length
  ·obtain⟨b,off,cp,dL,_,_,hb,hcell⟩:=HA1.out.full (by omega)
   obtain⟨a,ha⟩:∃a,l[i]? =some a:=⟨l[i],List.getElem?_eq_getElem hlt⟩
   obtain⟨c0,c1,_,_,c9,_⟩:=hcell i a ha
   have hmem:=List.mem_of_getElem? ha
   have AOK:=hide (HA1.out.2 a hmem)
   obtain⟨hak,han,_⟩:=AOK.out.kn
   have H40:=hide (SMI.out.2 a hmem).1
   have FOK:=hide (HF.out a hmem).1.1
   obtain⟨va,ka,hav,_,_⟩:=AOK.out.ops.shape
   have CE:Hid (∀W,Below w2.heap.size w2 W→W.cell? ⟨b,off+i*13,none⟩=some (.int .i64 a.k)∧W.cell? ⟨b,off+i*13+1,none⟩=some (.int .i64 a.n)∧W.cell? ⟨b,off+i*13+9,none⟩=some (.slice va a.l.length ka)):=hide fun W hW=>⟨(hW.cell (p:=⟨b,off+i*13,none⟩) hb).trans c0,(hW.cell (p:=⟨b,off+i*13+1,none⟩) hb).trans c1,by rw[←hav];exact(hW.cell (p:=⟨b,off+i*13+9,none⟩) hb).trans c9⟩
   simp only[Value.slice.injEq,true_and]at dL
   obtain⟨hao,hcp⟩:=dL
   have hlt':(i:Int)<l.length:=by omega
   have hi0:(0:Int)≤(i:Int):=by omega
   obtain⟨d0,d1,d9⟩:=CE.out wr AG.out.lv.aF
   have PK:=hide (tY a.k 2 wr (by omega) (by omega) (anw hak))
   have SL:Hid (s.l.length≤2*(i+1)):=hide AG.out.sz.2.1
   have hsl:s.l.length≤100:=by have:=SL.out;omega
   have OV:=hide hav
   subst hao
   clear hcell ha hmem c0 c1 c9 hcp
   go_wp2_with fail
   refine PK.out.mono ?_
   rintro E wp ⟨rfl,hwp⟩
   obtain rfl:=hwp
   clear PK
   by_cases hk:pk a.k 2=1
   ·have hkb:(pk a.k 2==1)=true:=by simp[hk]
    have EN:Hid (Calls Tryz.prog 19 #[.pointer (some ⟨p,0,none⟩)] wr.drew fun E W=>E=.returned (.int .i64 s.l.length)∧W.cell? ⟨b,off+i*13+1,none⟩=some (.int .i64 a.n)∧Hid (mO w2 W p q tp tb F1 s (i+1))):=hide (by
     have A2:=AG.out.below ((Below.refl _ _).drew)
     refine(aa9 p q F1 wr.drew s A2.lv.st (dD A2.sz (by omega))).mono ?_
     rintro E W ⟨rfl,bW⟩
     exact⟨rfl,(CE.out W (A2.below bW).lv.aF).2.1,hide (A2.below bW)⟩)
    have aBz:IntKind.i64.wrap ((s.l.length:Int)+1)=(s.l.length:Int)+1:=aN _ (by omega) (by omega)
    have PKN:Hid (∀W,Calls Tryz.prog 26 #[.int .i64 a.n,.int .i64 ((s.l.length:Int)+1)] W fun E W'=>E=.returned (.int .i64 (pk a.n ((s.l.length:Int)+1)))∧W=W'):=hide fun W=>tY a.n _ W (by omega) (by omega) (anw han)
    have FLU:Hid (∀W,mO w2 W p q tp tb F1 s (i+1)→Calls Tryz.prog 12 #[.pointer (some ⟨p,0,none⟩),.int .i64 (pk a.n ((s.l.length:Int)+1))] W fun E W'=>(∃e,E=.returned (.int .i64 e))∧W'.cell? ⟨b,off+i*13+1,none⟩=some (.int .i64 a.n)∧Hid (∃F' s',mO w2 W' p q tp tb F' s' (i+1+1))):=hide fun W hW=>by
     have:=akA a.n ((s.l.length:Int)+1) (by omega)
     refine(hW.aR (by omega) _ ⟨by omega,by omega⟩).mono ?_
     rintro E W' ⟨h1,F',s',h2⟩
     exact⟨h1,(CE.out W' h2.lv.aF).2.1,hide ⟨F',s',h2⟩⟩
    clear AG d0 d9 hk
    go_wp2_with fail
    go_region_held3 (fun W=>W.cell? ⟨b,off+i*13+1,none⟩=some (.int .i64 a.n)) (first|exact d1|exact y1|exact z1|go_keep)
     (first
     |(go_at_call 19;refine EN.out.mono ?_;rintro E w6 ⟨rfl,y1,AG6⟩)
     |(go_at_call 26;refine(PKN.out _).mono ?_;rintro E w7 ⟨rfl,hw7⟩;obtain rfl:=hw7)
     |(go_at_call 12;refine(FLU.out _ AG6.out).mono ?_;rintro E w8 ⟨⟨e8,rfl⟩,z1,A8⟩))
    all_goals
     clear EN PKN FLU
     go_wp2
     go_roundw
     case rel=>exact⟨i+1,by omega,by go_num,A8⟩
     case measure=>simp[intOf];omega
   ·have hkb:(pk a.k 2==1)=false:=by simp[hk]
    have aBz:IntKind.i64.wrap ((s.l.length:Int)+1)=(s.l.length:Int)+1:=aN _ (by omega) (by omega)
    obtain⟨ae,hae⟩:∃x,(Rst.add s [⟨1,(s.l.length:Int)+1,a.l⟩]).1=x:=⟨_,rfl⟩
    have HAE:=hide hae
    have EN:Hid (Calls Tryz.prog 19 #[.pointer (some ⟨p,0,none⟩)] wr.drew fun E W=>E=.returned (.int .i64 s.l.length)∧W.cell? ⟨b,off+i*13+9,none⟩=some (.slice va a.l.length ka)∧∃V,W.alloc (.cells #[.int .i64 1,.int .i64 ((s.l.length:Int)+1),.slice va a.l.length ka] 32)=V∧V.cell? ⟨b,off+i*13+9,none⟩=some (.slice va a.l.length ka)∧
      Hid (Calls Tryz.prog 10 #[.pointer (some ⟨p,0,none⟩),.slice (some ⟨W.heap.size,0,none⟩) 1 1] V fun E w'=>E=.returned (.int .i64 ae)∧w'.cell? ⟨b,off+i*13+9,none⟩=some (.slice va a.l.length ka)∧(ae≠0→Hid (∃F' s',mO w2 w' p q tp tb F' s' (i+1+1)))∧(ae=0→Hid (Calls Tryz.prog 32 #[.pointer (some ⟨tp,0,none⟩),.slice va a.l.length ka] w' fun E w''=>E=.returned (.int .i64 0)∧w''.cell? ⟨b,off+i*13+9,none⟩=some (.slice va a.l.length ka)∧Hid (∃F' s',mO w2 w'' p q tp tb F' s' (i+1+1)))))):=hide (by
     have A2:=AG.out.below ((Below.refl _ _).drew)
     refine(aa9 p q F1 wr.drew s A2.lv.st (dD A2.sz (by omega))).mono ?_
     rintro E W ⟨rfl,bW⟩
     have hops:=AOK.out.ops
     rw[OV.out]at hops
     obtain⟨V,hV,bV,AD⟩:=A2.add (by omega) (e:=1) (m:=(s.l.length:Int)+1) bW hops FOK.out H40.out ⟨by simp[In64],⟨by omega,by omega⟩⟩
     refine⟨rfl,(CE.out W (A2.below bW).lv.aF).2.2,V,hV,(CE.out V (A2.below bV).lv.aF).2.2,hide ?_⟩
     rw[HAE.out]at AD
     refine AD.out.mono ?_
     rintro E w' ⟨rfl,bw,h1,h2⟩
     refine⟨rfl,(CE.out w' bw).2.2,fun q=>hide (h1 q),fun q=>hide ?_⟩
     refine(h2 q).out.mono ?_
     rintro E w'' ⟨rfl,F',s',h3⟩
     exact⟨rfl,(CE.out w'' h3.lv.aF).2.2,hide ⟨F',s',h3⟩⟩)
    clear AG d0 d1 hk hae HAE
    by_cases h0:ae=0
    ·subst h0
     go_wp2_with fail
     go_region_held3 (fun W=>W.cell? ⟨b,off+i*13+9,none⟩=some (.slice va a.l.length ka)) (first|exact d9|exact y9|exact v9|exact z9|exact t9|go_keep)
      (first
      |(go_at_call 19;refine EN.out.mono ?_;rintro E w6 ⟨rfl,y9,V,hV,v9,AD⟩)
      |(go_at_call 10;refine AD.out.mono ?_;rintro E w7 ⟨rfl,z9,_,AP⟩)
      |(go_at_call 32;refine(AP (by trivial)).out.mono ?_;rintro E w8 ⟨rfl,t9,A8⟩))
     all_goals
      go_wp2
      go_roundw
      case rel=>exact⟨i+1,by omega,by go_num,A8⟩
      case measure=>simp[intOf];omega
    ·have heb:(ae==0)=false:=by simp[h0]
     obtain⟨W0,hW0⟩:∃W,wr.drew=W:=⟨_,rfl⟩
     rw[hW0]at EN
     have d9:W0.cell? ⟨b,off+i*13+9,none⟩=some (.slice va a.l.length ka):=by rw[←hW0];exact d9
     go_wp2_with fail
     refine je (ops:=(au 15 Tryz.f6)) (S:=fun W=>W.cell? ⟨b,off+i*13+9,none⟩=some (.slice va a.l.length ka)) (by kernel_rfl) aqP ?_
     rw[avr,hW0]
     refine aG (v:=?_) aoU (by kernel_rfl) (fun _ _ _ _ _ h=>h) d9 rfl rfl (by rfl) ?_ ?_
     rotate_left 1
     ·intro w hS
      (try dsimp only at hS)
      go_simp
      all_goals with_reducible rfl
     simp only[Act.put,List.setIfInBounds_toArray,List.set_cons_zero,List.set_cons_succ]
     refine aG (v:=?_) aou (by kernel_rfl) (fun _ _ _ _ _ h=>h) d9 rfl rfl (by rfl) ?_ ?_
     rotate_left 1
     ·intro w hS
      (try dsimp only at hS)
      go_simp
      all_goals with_reducible rfl
     simp only[Act.put,List.setIfInBounds_toArray,List.set_cons_zero,List.set_cons_succ]
     refine aG (v:=?_) apk (by kernel_rfl) (fun _ _ _ _ _ h=>h) d9 rfl rfl (by rfl) ?_ ?_
     rotate_left 1
     ·intro w hS
      (try dsimp only at hS)
      go_simp
      all_goals with_reducible rfl
     simp only[Act.put,List.setIfInBounds_toArray,List.set_cons_zero,List.set_cons_succ]
     refine aG (v:=?_) am4 (by kernel_rfl) (fun _ _ _ _ _ h=>h) d9 rfl rfl (by rfl) ?_ ?_
     rotate_left 1
     ·intro w hS
      (try dsimp only at hS)
      go_simp
      all_goals with_reducible rfl
     simp only[Act.put,List.setIfInBounds_toArray,List.set_cons_zero,List.set_cons_succ]
     refine aG (v:=?_) ani (by kernel_rfl) (fun _ _ _ _ _ h=>h) d9 rfl rfl (by rfl) ?_ ?_
     rotate_left 1
     ·intro w hS
      (try dsimp only at hS)
      go_simp
      all_goals with_reducible rfl
     simp only[Act.put,List.setIfInBounds_toArray,List.set_cons_zero,List.set_cons_succ]
     refine aG (v:=?_) alv (by kernel_rfl) (fun _ _ _ _ _ h=>h) d9 rfl rfl (by rfl) ?_ ?_
     rotate_left 1
     ·intro w hS
      (try dsimp only at hS)
      go_simp
      all_goals with_reducible rfl
     simp only[Act.put,List.setIfInBounds_toArray,List.set_cons_zero,List.set_cons_succ]
     refine aG (v:=?_) alu (by kernel_rfl) (fun _ _ _ _ _ h=>h) d9 rfl rfl (by rfl) ?_ ?_
     rotate_left 1
     ·intro w hS
      (try dsimp only at hS)
      go_simp
      all_goals with_reducible rfl
     simp only[Act.put,List.setIfInBounds_toArray,List.set_cons_zero,List.set_cons_succ]
     refine aQ apW ?_
     refine aM rfl (by rfl) (fun K hK=>?_)
     go_simp
     refine EN.out.mono ?_
     rintro E U1 ⟨rfl,y9,V,hV,v9,AD⟩
     go_wp2_with fail
     refine hK.out _ _ y9 ?_
     clear hK K
     try simp only[Act.put,List.setIfInBounds_toArray,List.set_cons_zero,List.set_cons_succ]
     refine aG (v:=?_) ala (by kernel_rfl) (fun _ _ _ _ _ h=>h) y9 rfl rfl (by rfl) ?_ ?_
     rotate_left 1
     ·intro w hS
      (try dsimp only at hS)
      go_simp
      all_goals with_reducible rfl
     simp only[Act.put,List.setIfInBounds_toArray,List.set_cons_zero,List.set_cons_succ]
     refine aG (v:=?_) ak8 (by kernel_rfl) (fun _ _ _ _ _ h=>h) y9 rfl rfl (by rfl) ?_ ?_
     rotate_left 1
     ·intro w hS
      (try dsimp only at hS)
      go_simp
      all_goals with_reducible rfl
     simp only[Act.put,List.setIfInBounds_toArray,List.set_cons_zero,List.set_cons_succ]
     refine aQ anb ?_
     refine aM rfl (by rfl) (fun K hK=>?_)
     go_simp
     go_wp2_with fail
     refine hK.out _ _ v9 ?_
     clear hK K
     try simp only[Act.put,List.setIfInBounds_toArray,List.set_cons_zero,List.set_cons_succ]
     refine aQ amC ?_
     refine aM rfl (by rfl) (fun K hK=>?_)
     go_simp
     refine AD.out.mono ?_
     rintro E U3 ⟨rfl,z9,AN,_⟩
     go_wp2_with fail
     refine hK.out _ _ z9 ?_
     clear hK K
     try simp only[Act.put,List.setIfInBounds_toArray,List.set_cons_zero,List.set_cons_succ]
     refine aG (v:=?_) agl (by kernel_rfl) (fun _ _ _ _ _ h=>h) z9 rfl rfl (by rfl) ?_ ?_
     rotate_left 1
     ·intro w hS
      (try dsimp only at hS)
      go_simp
      all_goals with_reducible rfl
     simp only[Act.put,List.setIfInBounds_toArray,List.set_cons_zero,List.set_cons_succ]
     refine aG (v:=?_) ag1 (by kernel_rfl) (fun _ _ _ _ _ h=>h) z9 rfl rfl (by rfl) ?_ ?_
     rotate_left 1
     ·intro w hS
      (try dsimp only at hS)
      go_simp
      all_goals with_reducible rfl
     simp only[Act.put,List.setIfInBounds_toArray,List.set_cons_zero,List.set_cons_succ]
     refine iI aeZ (by kernel_rfl) (fun _ _ _ _ _ h=>h) z9 rfl rfl (by rfl) ?_
     simp only[Act.put,List.setIfInBounds_toArray,List.set_cons_zero,List.set_cons_succ]
     refine iI aeW (by kernel_rfl) (fun _ _ _ _ _ h=>h) z9 rfl rfl (by rfl) ?_
     simp only[Act.put,List.setIfInBounds_toArray,List.set_cons_zero,List.set_cons_succ]
     refine iI aeV (by kernel_rfl) (fun _ _ _ _ _ h=>h) z9 rfl rfl (by rfl) ?_
     simp only[Act.put,List.setIfInBounds_toArray,List.set_cons_zero,List.set_cons_succ]
     refine iI adY (by kernel_rfl) (fun _ _ _ _ _ h=>h) z9 rfl rfl (by rfl) ?_
     simp only[Act.put,List.setIfInBounds_toArray,List.set_cons_zero,List.set_cons_succ]
     refine iI adA (by kernel_rfl) (fun _ _ _ _ _ h=>h) z9 rfl rfl (by rfl) ?_
     simp only[Act.put,List.setIfInBounds_toArray,List.set_cons_zero,List.set_cons_succ]
     refine iI adr (by kernel_rfl) (fun _ _ _ _ _ h=>h) z9 rfl rfl (by rfl) ?_
     simp only[Act.put,List.setIfInBounds_toArray,List.set_cons_zero,List.set_cons_succ]
     refine iI acH (by kernel_rfl) (fun _ _ _ _ _ h=>h) z9 rfl rfl (by rfl) ?_
     simp only[Act.put,List.setIfInBounds_toArray,List.set_cons_zero,List.set_cons_succ]
     refine iI abv (by kernel_rfl) (fun _ _ _ _ _ h=>h) z9 rfl rfl (by rfl) ?_
     simp only[Act.put,List.setIfInBounds_toArray,List.set_cons_zero,List.set_cons_succ]
     refine aG (v:=?_) ack (by kernel_rfl) (fun _ _ _ _ _ h=>h) z9 rfl rfl (by rfl) ?_ ?_
     rotate_left 1
     ·intro w hS
      (try dsimp only at hS)
      go_simp
      all_goals with_reducible rfl
     simp only[Act.put,List.setIfInBounds_toArray,List.set_cons_zero,List.set_cons_succ]
     refine dz auk ?_
     have A8:=AN h0
     clear AN
     go_wp2
     go_roundw
     case rel=>exact⟨i+1,by omega,by go_num,A8⟩
     case measure=>simp[intOf];omega
  ·have hlt':¬(i:Int)<l.length:=by omega
   obtain⟨n,hn⟩:∃n,n=i+1:=⟨_,rfl⟩
   have hn50:n≤50:=by omega
   rw[←hn]at AG
   have ST:Hid (∀W F',Lv w2 W p q F' s→Calls Tryz.prog 33 #[.pointer (some ⟨q,0,none⟩)] W fun E w'=>E=.returned (.int .i64 s.d.count)∧W=w'):=hide fun W F' hW=>by
    obtain⟨Fd,k1,_,_⟩:=hW.st.disk fun e=>by have:=(hW.new 0 e).2;omega
    exact anA q Fd W s.d k1
   have S1:=hide (ST.out wr F1 AG.out.lv)
   have AGN:Hid (Calls Tryz.prog 9 #[.pointer (some ⟨q,0,none⟩),.int .i64 1] wr fun E w'=>∃p2 F2 F3,E=.returned (.tuple #[.pointer (some ⟨p2,0,none⟩),.int .i64 0])∧Hid (Twi w2 w' p p2 q tp tb F2 F3 s n)):=hide (by
    obtain⟨ps,hin⟩:=AG.out.inn
    refine(agD AG.out.lv AG.out.sz (by omega) (.inr rfl) hin).mono ?_
    rintro E w' ⟨p2,F2,F3,rfl,j1,j2,j3,j4⟩
    exact⟨p2,F2,F3,rfl,hide ⟨j1,j2,AG.out.tab.agree (j3.block tp AG.out.tab.plt AG.out.ap.1) (j3.block tb AG.out.tab.blt AG.out.ap.2),AG.out.sz⟩⟩)
   obtain⟨sc,hsc⟩:∃x,s.d.count=x:=⟨_,rfl⟩
   rw[hsc]at ST S1
   clear AG hn hsc
   go_wp2_with fail
   refine S1.out.mono ?_
   rintro E wp ⟨rfl,hwp⟩
   obtain rfl:=hwp
   clear S1
   go_wp2_with fail
   refine AGN.out.mono ?_
   rintro E x1 ⟨p2,F2,F3,rfl,TW⟩
   have S2:=hide (ST.out x1 F2 TW.out.a)
   clear AGN
   go_wp2_with fail
   refine S2.out.mono ?_
   rintro E wp ⟨rfl,hwp⟩
   obtain rfl:=hwp
   have G1:=hide (sD p2 q F3 x1 s TW.out.b.st (dD TW.out.z (by omega)))
   clear S2 ST
   go_wp2_with fail
   refine G1.out.mono ?_
   rintro E x2 ⟨v2,r2,rfl,sh2,e2,B2⟩
   have TW2:=hide (TW.out.below B2)
   have SH2:=hide (And.intro sh2 e2)
   have G2:=hide (sD p q F2 x2 s TW2.out.a.st (dD TW2.out.z (by omega)))
   clear G1 TW B2 sh2 e2
   go_wp2_with fail
   refine G2.out.mono ?_
   rintro E x3 ⟨v3,r3,rfl,sh3,e3,B3⟩
   have TW3:=hide (TW2.out.below B3)
   have SC:Hid (Calls Tryz.prog 34 #[v2,v3] x3 fun E w'=>E=.returned (.bool true)∧Below x3.heap.size x3 w'):=hide (by
    have hz:=TW3.out.z.2
    have l2:r2.length=s.l.length:=by rw[←SH2.out.2,ji]
    have l3:r3.length=s.l.length:=by rw[←e3,ji]
    have:=abS v2 v3 r2 r3 x3 (qL (SH2.out.1.below B3)) (qL sh3) SH2.out.1.f sh3.f (by omega) (by omega)
    rw[SH2.out.2,e3,wE]at this
    exact this)
   clear G2 TW2 sh3 e3 B3 SH2
   go_wp2_with fail
   refine SC.out.mono ?_
   rintro E x4 ⟨rfl,B4⟩
   have TW4:=hide (TW3.out.below B4)
   have R1:=hide (xX p2 q F3 x4 s TW4.out.b.st (dD TW4.out.z (by omega)))
   clear SC TW3 B4
   go_wp2_with fail
   refine R1.out.mono ?_
   rintro E x5 ⟨v5,r5,rfl,Q5,_,B5⟩
   have TW5:=hide (TW4.out.below B5)
   have Q5:=hide Q5
   have R2:=hide (xX p q F2 x5 s TW5.out.a.st (dD TW5.out.z (by omega)))
   clear R1 TW4 B5
   go_wp2_with fail
   refine R2.out.mono ?_
   rintro E x6 ⟨v6,r6,rfl,Q6,_,B6⟩
   have TW6:=hide (TW5.out.below B6)
   have SR:Hid (Calls Tryz.prog 35 #[v5,v6] x6 fun E w'=>E=.returned (.bool true)∧Below x6.heap.size x6 w'):=hide (by
    have l5:=Q5.out.nA
    have l6:=Q6.nA
    have:=akK v5 v6 r5 r6 x6 (Q5.out.yL.below B6) Q6.yL Q5.out.fit Q6.fit (by omega) (by omega)
    rw[Q5.out.is,Q6.is,wE]at this
    exact this)
   clear R2 TW5 Q5 Q6 B6
   go_wp2_with fail
   refine SR.out.mono ?_
   rintro E x7 ⟨rfl,B7⟩
   have TW7:=hide (TW6.out.below B7)
   have P1:=hide (lW p2 q F3 x7 s TW7.out.b.st (dD TW7.out.z (by omega)))
   unfold vp at P1
   clear SR TW6 B7
   go_wp2_with fail
   refine P1.out.mono ?_
   rintro E x8 ⟨rfl,B8⟩
   have TW8:=hide (TW7.out.below B8)
   have P2:=hide (lW p q F2 x8 s TW8.out.a.st (dD TW8.out.z (by omega)))
   unfold vp at P2
   clear P1 TW7 B8
   go_wp2_with fail
   refine P2.out.mono ?_
   rintro E x9 ⟨rfl,B9⟩
   have TW9:=hide (TW8.out.below B9)
   have SP:=hide (mM s.p s.p x9)
   unfold vp at SP
   rw[show same s.p s.p=true from sK.2 rfl]at SP
   clear P2 TW8 B9
   go_wp2_with fail
   refine SP.out.mono ?_
   rintro E xa ⟨rfl,Ba⟩
   have TWa:=hide (TW9.out.below Ba)
   clear SP TW9 Ba
   go_wp2
   go_loopw [12] (fun jv wz=>∃j:Nat,j≤ks.length∧jv=.int .i64 j∧Hid (Twi w2 wz p p2 q tp tb F2 F3 s n)) (fun jv _=>ks.length-(intOf jv).toNat)
   case atStart=>exact⟨0,by omega,rfl,TWa⟩
   case round=>
    clear TWa
    obtain⟨j,hj,rfl,TW⟩:=hrel
    by_cases hjl:j<ks.length
    ·obtain⟨kb,kf,kc,hkx,_,_,hkb,hkc⟩:=IsS.full (show IsS wr _ ks from HK1.out.below TW.out.a.aF) (by omega)
     simp only[Value.slice.injEq,true_and]at hkx
     obtain⟨hko,hkq⟩:=hkx
     obtain⟨k,hk⟩:∃k,ks[j]? =some k:=⟨ks[j],List.getElem?_eq_getElem hjl⟩
     have e0:=hkc j k hk
     have hks:k.size≤140737488355328:=by have:=HFK.out k (List.mem_of_getElem? hk);omega
     have KC:Hid (∀W,Below wr.heap.size wr W→W.cell? ⟨kb,kf+j,none⟩=some (.string k)):=hide fun W hW=>(hW.cell (p:=⟨kb,kf+j,none⟩) hkb).trans e0
     have ahH:(j:Int)<ks.length:=by omega
     have hj0:(0:Int)≤(j:Int):=by omega
     obtain⟨gvv,hgv⟩:∃x,gv (Sto.fold (Rst.aZ s)) k=x:=⟨_,rfl⟩
     obtain⟨gpp,hgp⟩:∃x,gp (Sto.fold (Rst.aZ s)) k=x:=⟨_,rfl⟩
     have GA:=hide (wS p q F2 wr s TW.out.a.st (dD TW.out.z (by omega)) k hks)
     rw[hgv,hgp]at GA
     have HG:=hide (And.intro hgv hgp)
     subst hko
     clear hkc hk hgv hgp hkq
     go_wp2_with fail
     refine GA.out.mono ?_
     rintro E y1 ⟨rfl,B1⟩
     have TW1:=hide (TW.out.below B1)
     have e1:=KC.out y1 B1
     have BB1:=hide B1
     have GB:=hide (wS p2 q F3 y1 s TW1.out.b.st (dD TW1.out.z (by omega)) k hks)
     rw[HG.out.1,HG.out.2]at GB
     clear GA B1 TW e0
     go_wp2_with fail
     refine GB.out.mono ?_
     rintro E y2 ⟨rfl,B2⟩
     have TW2:=hide (TW1.out.below B2)
     have e2:=KC.out y2 (BB1.out.trans (B2.mono BB1.out.size))
     have GT:=hide (ahj tp tb y2 _ k TW2.out.t hks)
     rw[HG.out.1,HG.out.2]at GT
     obtain⟨mt,hmt⟩:∃x,Tm.met (Sto.fold (Rst.aZ s)) k=x:=⟨_,rfl⟩
     rw[hmt]at GT
     clear GB B2 TW1 e1 hmt HG
     go_wp2_with fail
     refine GT.out.mono ?_
     rintro E y3 ⟨rfl,B3⟩
     have TW3:=hide (TW2.out.below B3)
     clear GT TW2 B3 e2 KC BB1
     go_wp2
     go_roundw
     case rel=>exact⟨j+1,by omega,by go_num,TW3⟩
     case measure=>simp[intOf];omega
    ·have ahH:¬(j:Int)<ks.length:=by omega
     have BF:=hide (B1.out.trans (TW.out.a.aF.mono B1.out.size))
     clear TW
     go_wp2
     go_ret
     exact⟨rfl,BF.out⟩
end Go.Proofs.YtpifdeoepppadaaGreatDoor
namespace Go.Proofs.YtpifdeoepppadaaGreatDoor
open Go.ChangeShapes Go.WideShapes Go.ChangeAt Go.RowKit
open Go.ChangeMaps (open_string shut_string)
set_option linter.unusedVariables false
namespace restartAgainFrame
theorem own:ownKnob Tryz.prog.godebug=none:=by kernel_rfl
theorem laidOut:laidOutB Tryz.prog=true:=by kernel_rfl
theorem ayM:Tryz.prog.cellsOf 9=1:=by kernel_rfl
theorem axC:Tryz.prog.bytesOf 9=16:=by kernel_rfl
theorem uD:Tryz.prog.cellsOf 47=13:=by kernel_rfl
theorem zt:Tryz.prog.bytesOf 47=136:=by kernel_rfl
theorem uW:Tryz.prog.cellsOf 32=3:=by kernel_rfl
theorem zG:Tryz.prog.bytesOf 32=40:=by kernel_rfl
theorem rY:Tryz.prog.cellsOf 106=3:=by kernel_rfl
theorem xn:Tryz.prog.bytesOf 106=40:=by kernel_rfl
theorem contract (H:Type)(enc:TypeId×Value→H)(W:World)(base:Nat)(args:Array Value)(ds gs:List (DataW H))(before:List MemPlace)
  (hval0:∀(j:Nat) t v,Tryz.f6.params[j]? =some t→args[j]? =some v→Value.okWide Tryz.prog W .any base t v)
  (hW:DataW.Whole enc Tryz.prog Tryz.f6.params.toList Rows.restartAgainSpec.vars false W args.toList ds gs before)
  (hsz0:(DataW.weightsEach Tryz.prog (Tryz.f6.params.toList++Rows.restartAgainSpec.plain.varTypes Tryz.prog) (ds++gs)).all (·≤reachBytes)=true) (hsh:W.ShapedOpen Tryz.prog) (hld:laidMetH Tryz.prog Rows.restartAgainRow.laid W):
  Calls Tryz.prog 6 args W fun e W'=>∃v,e=.returned v∧Rows.restartAgainSpec.post enc Tryz.prog Tryz.f6 false true false false W args v W':=by
 have hsz:(DataW.weightsEach Tryz.prog (Tryz.f6.params.toList++Rows.restartAgainSpec.plain.varTypes Tryz.prog) (ds++gs)).all (·≤reachBytes)=true:=hsz0
 clear hsz0
 have hval:∀(j:Nat) t v,Tryz.f6.params[j]? =some t→args[j]? =some v→Value.okWide Tryz.prog W .any base t v:=hval0
 have hW':=hW
 obtain⟨p,q,yT,hV,rfl,hfz,hnd⟩:=hW
 have hA:DataW.TrodAll enc Tryz.prog W 0 (fun _=>true) true Tryz.f6.params.toList args.toList ds p:=yT
 rw[Tryz.params6]at hA hval hsz
 obtain⟨v0,vs0,d0,ds0,p0,q0,hargs,rfl,rfl,h0,r0⟩:=trodAll_cons hA
 obtain⟨v1,vs1,d1,ds1,p1,q1,rfl,rfl,rfl,h1,r1⟩:=trodAll_cons r0
 obtain⟨rfl,rfl,rfl⟩:=trodAll_nil r1
 obtain rfl:args=#[v0,v1]:=by cases args;simp_all
 obtain⟨rfl,rfl⟩:=trodVars_none hV
 have T0:=xU.mk (P:=Tryz.prog) (e:=47) (o:=106) (c:=32) Tryz.underlying47 ⟨rfl,rfl,rfl,rfl,rfl,rfl⟩ ⟨by kernel_rfl,by kernel_rfl,by kernel_rfl,by kernel_rfl,by kernel_rfl,by kernel_rfl⟩ ⟨Tryz.underlying3,Tryz.underlying3,Tryz.underlying3⟩ Tryz.underlying41 (by kernel_rfl) ⟨Tryz.underlying3,Tryz.underlying38,Tryz.underlying3,Tryz.underlying39,Tryz.underlying3,Tryz.underlying3⟩ Tryz.underlying30 Tryz.underlying106 (by kernel_rfl) rY ⟨Tryz.underlying4,Tryz.underlying9,Tryz.underlying9⟩ Tryz.underlying45 (by kernel_rfl) ⟨Tryz.underlying3,Tryz.underlying3,Tryz.underlying43⟩ Tryz.underlying32 (by kernel_rfl) uW ⟨Tryz.underlying3,Tryz.underlying3,Tryz.underlying30⟩
 have k0:=h0
 have jD:∀x∈p0,x.block<W.heap.size:=by obtain⟨m,hm⟩:=k0;exact DataW.trod_lt m _ _ _ hm
 obtain⟨a0,af2,cap0,rfl⟩:=okWide_slice Tryz.underlying77 (hval 0 77 v0 rfl rfl)
 obtain⟨z0,w0,g0,b0⟩:∃r,kW W (.slice a0 af2 cap0) r∧yu r∧r.length*136≤140737488351232:=by
  obtain⟨fuel,hf⟩:=h0
  have hf':DataW.trod enc Tryz.prog W 0 (fun _=>true) true fuel 77 [.slice a0 af2 cap0]=some (d0,p0):=by simpa[Value.cells]using hf
  obtain⟨r,hr,hd⟩:=agW T0 Tryz.underlying77 uD hf'
  rcases hd with⟨_,rfl⟩|⟨es,sp,hd,hln,hes⟩
  ·exact⟨[],hr,fun c hc=>by simp at hc,by simp⟩
  ·simp only at hd
   rw[hd]at hsz
   obtain⟨h1,h2⟩:=ad3 T0 xn zG zt hsz (j:=0) (t:=77) rfl rfl hln hes Tryz.underlying77
   exact⟨r,hr,h1,h2⟩
 obtain⟨a1,awh,ayZ,rfl⟩:=okWide_slice Tryz.underlying84 (hval 1 84 v1 rfl rfl)
 have k1:=h1
 have lt1:∀x∈p1,x.block<W.heap.size:=by obtain⟨m,hm⟩:=k1;exact DataW.trod_lt m _ _ _ hm
 obtain⟨z1,w1,g1,b1⟩:∃r,IsS W (.slice a1 awh ayZ) r∧aoB r∧r.length*16≤140737488351232:=by
  obtain⟨fuel,hf⟩:=h1
  have hf':DataW.trod enc Tryz.prog W 0 (fun _=>true) true fuel 84 [.slice a1 awh ayZ]=some (d1,p1):=by simpa[Value.cells]using hf
  obtain⟨r,hr,hd⟩:=open_strs Tryz.underlying84 Tryz.underlying9 ayM hf'
  rcases hd with⟨_,rfl⟩|⟨es,sp,hd,hln,hes⟩
  ·exact⟨[],hr,fun c hc=>by simp at hc,by simp⟩
  ·simp only at hd
   rw[hd]at hsz
   obtain⟨h1,h2⟩:=akv hsz (j:=1) (t:=84) (e:=9) rfl rfl hln hes Tryz.underlying84 Tryz.underlying9 axC
   exact⟨r,hr,h1,h2⟩
 clear yT hval0
 refine(zZ _ z0 _ z1 W w0 g0 b0 w1 g1 b1 (acf hld)).mono fun e W' ⟨he,aF⟩=>?_
 subst he
 exact⟨_,rfl,_,_,_,[],_,[],hW',trodAll_mk1 (shut_bool Tryz.underlying4 _),(trodAll_cons_mk (Below.trod laidOut (by kernel_rfl) (of_decide_eq_true (by kernel_rfl)) k0 aF jD) (trodAll_cons_mk (Below.trod laidOut (by kernel_rfl) (of_decide_eq_true (by kernel_rfl)) k1 aF lt1) trodAll_mk0)),rfl,aF.frame _,fun h=>by cases h⟩
def kC (cs:Array Value):Obj→Obj
 |.cells _ t frozen=>.cells cs t frozen
 |o=>o
theorem lifted (os:Os)(started:os.Started)(H:Type)(enc:TypeId×Value→H)(F:Stop.Interp):
  ReturnsInHanded {} Tryz.checked os 6 .any ((OpenSpec.ofChange Rows.restartAgainSpec).preRow enc Tryz.prog Tryz.f6 Rows.restartAgainRow.domain false Rows.restartAgainRow.laid) (((OpenSpec.ofChange Rows.restartAgainSpec).at F).post enc Tryz.prog Tryz.f6 false true false false):=by
 refine returnsInHanded_of_row (C:=Tryz.checked) (s:=OpenSpec.ofChange Rows.restartAgainSpec) own started (by kernel_rfl) Tryz.func6
  (witness_row_at (enc:=enc) (C:=Tryz.checked) false ({World.holding Tryz.prog os ⟨#[],#[],[]⟩with heap:=((World.holding Tryz.prog os ⟨#[],#[],[]⟩).heap.modify 0 (kC (#[.int .i64 1048576,.int .i64 3,.int .i64 1048576,.int .i64 4,.int .i64 1048576,.int .i64 1073741824])))}:World) #[.slice none 0 0,.slice none 0 0] rfl (by kernel_rfl) (by kernel_rfl) (by kernel_rfl)
   (OpenSpec.preRow_of_cond 8 (x:=([.nil,.nil],[],[])) (by kernel_rfl) (by kernel_rfl) (fun k hk=>by cases hk) (by kernel_rfl) (laidMet_of_run' 8 (by kernel_rfl) (by kernel_rfl)))) ?_
 intro W base args ds gs before hval hW _ _ hsz hld hsh _
 exact contract H enc W base args ds gs before hval hW hsz hsh hld
theorem said:Rows.RestartAgainSaid:=
 OpenClaim.holds_of_cond 6 Tryz.f6 rfl rfl rfl rfl rfl rfl rfl ⟨rfl,rfl,rfl,rfl,rfl⟩ rfl rfl rfl rfl rfl (by kernel_rfl) Tryz.func6 (by kernel_rfl)
  (of_decide_eq_true (by kernel_rfl)) (by unfold Func.isWrapper;first|(rw[if_pos (by decide+kernel)];kernel_rfl)|(rw[if_neg (by decide+kernel)];exact⟨rfl,rfl⟩))
  (fun os started H enc _ F=>by rw[OpenClaim.pre_eq_preRow];exact lifted os started H enc F)
theorem plain (f:FuncId)(fn:Func)(hf:Tryz.pinned.checked.prog.funcNamed Rows.restartAgainRow.func=some f)(hfn:Tryz.pinned.checked.prog.funcs[f]? =some fn):
  false=Tryz.pinned.checked.prog.looks []∧∀(j:Nat) t,fn.params[j]? =some t→Tryz.pinned.checked.prog.wantsStandIn t=false:=by
 obtain rfl:f=6:=Option.some.inj ((show Tryz.prog.funcNamed Rows.restartAgainRow.func=some 6 by kernel_rfl).symm.trans hf)|>.symm
 obtain rfl:fn=Tryz.f6:=(Option.some.inj (Tryz.func6.symm.trans hfn)).symm
 refine⟨by kernel_rfl,fun j t ht=>?_⟩
 rw[Tryz.params6]at ht
 have hm:=Array.mem_of_getElem? ht
 simp at hm
 rcases hm with rfl|rfl
 ·exact(show Tryz.prog.wantsStandIn 77=false by kernel_rfl)
 ·exact(show Tryz.prog.wantsStandIn 84=false by kernel_rfl)
end restartAgainFrame
theorem restartAgain_card:Rows.RestartAgainCardSaid:=
 Claim7.holds_tied_plain_at .later [] _ _ _ _ restartAgainFrame.said (fun _ h=>by cases h) (by kernel_rfl) (fun _ h=>by cases h) restartAgain_row_tie rfl ⟨rfl,rfl⟩ (by kernel_rfl) rfl restartAgainFrame.plain (by kernel_rfl)
#print axioms restartAgain_card
end Go.Proofs.YtpifdeoepppadaaGreatDoor
