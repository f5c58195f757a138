/- Texts of one layer, one behind the other. -/
import Derived.Test.YtmngcecomcadkaaGreatDoorCH1
import Derived.Test.YtmngcecomcadkaaGreatDoorCH2
import Derived.Test.YtmngcecomcadkaaGreatDoorCH6
import Derived.Maps.OwnSet
set_option maxRecDepth 100000
set_option maxHeartbeats 8000000
namespace Go.Proofs.YtmngcecomcadkaaGreatDoor
open Go.RowKit Go.Maps
set_option linter.unusedVariables false
theorem fB {P:Program}{ops:Array Oper}{Q:Exit→Act→World→Prop}{S:World→Prop}{J:Act→World→Prop}{i:Nat}{a:Act}{w:World}{o:Oper}(ho:(ops.toList.drop i).head? =some o)(hw:Region.wanted o (yielded ops a.tmps)=true)(h:∀K':Act→World→Prop,Shut (∀a w,S w→J a w→K' a w)→Oper.wp P o a w K' Q):wpOp P ops Q i (fun a' w'=>S w'∧J a' w') a w:=by
 have hs:=h (fun a' w'=>S w'∧J a' w') (fun a w h1 h2=>⟨h1,h2⟩)
 unfold wpOp
 rw[ah7 ho]
 simp only[hw,if_true]
 exact .inl hs
def jI (gd gs:Nat):Value:=.func (.func 123) #[] #[.pointer (some ⟨gd,0,none⟩),.pointer (some ⟨gs,0,none⟩)]
def Rfn:Value→Option (DataW Unit×List MemPlace)
 |.func (.func f) a c=>match a.toList,c.toList with
  |[],[.pointer (some ⟨gd,0,none⟩),.pointer (some ⟨gs,0,none⟩)]=>if f=123 then some (.agg [.lit (.int .i64 gd),.lit (.int .i64 gs)],[])else none
  |_,_=>none
 |.nilFunc=>some (.agg [],[])
 |_=>none
theorem asT (gd gs:Nat):Rfn (jI gd gs)=some (.agg [.lit (.int .i64 gd),.lit (.int .i64 gs)],[]):=rfl
theorem arS {v:Value}{gd gs:Nat}{ps:List MemPlace}(h:Rfn v=some (.agg [.lit (.int .i64 gd),.lit (.int .i64 gs)],ps)):v=jI gd gs:=by
 unfold Rfn at h
 split at h
 ·rename_i f a c
  split at h
  ·rename_i g1 g2 ha hc
   split at h
   ·rename_i hf
    subst hf
    simp at h
    obtain⟨⟨h1,h2⟩,_⟩:=h
    have e1:g1=gd:=by omega
    have e2:g2=gs:=by omega
    subst e1 e2
    obtain⟨a⟩:=a
    obtain⟨c⟩:=c
    simp at ha hc
    subst ha hc
    rfl
   ·cases h
  ·cases h
 ·simp at h
 ·cases h
def yK (v:Value):DataW Unit:=((Rfn v).map (·.1)).getD (.agg [])
def kQ (f4 f8 f12 f15:Bool) (v8 v11 v14 v16:Value):List (Lit×DataW Unit):=
 (bif f4 then [(.int .u8 1,yK v8)]else [])++((bif f8 then [(.int .u8 2,yK v11)]else [])++((bif f12 then [(.int .u8 3,yK v14)]else [])++(bif f15 then [(.int .u8 4,yK v16)]else [])))
def En (p base:Nat) (w:World) (v d:Value):Prop:=∃gd gs,v=jI gd gs∧w.heap[gd]? =some (.cells #[d] 96 (0,0))∧w.heap[gs]? =some (.cells #[.pointer (some ⟨p,0,none⟩)] 41 (0,0))∧base≤gd∧base≤gs
theorem En.below {p base:Nat}{w w':World}{v d:Value}(h:En p base w v d)(hb:Below w.heap.size w w'):En p base w' v d:=by
 obtain⟨gd,gs,h1,h2,h3,h4⟩:=h
 exact⟨gd,gs,h1,(hb.block _ (ax h2)).trans h2,(hb.block _ (ax h3)).trans h3,h4⟩
theorem En.bu {p base base':Nat}{w:World}{v d:Value}(h:En p base w v d)(hb:base'≤base):En p base' w v d:=by
 obtain⟨gd,gs,h1,h2,h3,h4,h5⟩:=h
 exact⟨gd,gs,h1,h2,h3,Nat.le_trans hb h4,Nat.le_trans hb h5⟩
theorem En.grown {p base b:Nat}{w w':World}{v d:Value}{es:Array MapEntry}{cl:Nat}(h:En p base w v d)(hb:w.heap[b]? =some (.map es cl))(hg:w.grownBy w' (some b)):En p base w' v d:=by
 obtain⟨gd,gs,h1,h2,h3,h4⟩:=h
 refine⟨gd,gs,h1,(hg.block _ (ax h2) fun e=>?_).trans h2,(hg.block _ (ax h3) fun e=>?_).trans h3,h4⟩
 ·rw[Option.some.inj e,hb]at h2;cases h2
 ·rw[Option.some.inj e,hb]at h3;cases h3
theorem nU (p:Nat)(d:Value)(f:FuncId)(c:Array Value)(hd:d=.func (.func f) #[] c)(w:World):
  Calls Tryz.prog 75 #[.pointer (some ⟨p,0,none⟩),d] w fun E w'=>∃gd gs,E=.returned (jI gd gs)∧w'.heap[gd]? =some (.cells #[d] 96 (0,0))∧w'.heap[gs]? =some (.cells #[.pointer (some ⟨p,0,none⟩)] 41 (0,0))∧(w.heap.size≤gd∧w.heap.size≤gs)∧Below w.heap.size w w':=by
 have rG:∀(fn:Fn) (first cap:Array Value) (w:World),(Instr.makeFunc fn first cap).run Tryz.prog w=.ok (.func fn first cap) w:=fun _ _ _ _=>rfl
 subst hd
 obtain⟨w1,hw1,s1,b1,P1⟩:=ak w #[.pointer (some ⟨p,0,none⟩)] 41
 obtain⟨w2,hw2,s2,b2,P2⟩:=ak w1 #[.func (.func f) #[] c] 96
 rw[s1]at P2
 have X:=hide (And.intro P2 (And.intro ((b2.block w.heap.size (by omega)).trans P1) (b1.trans (b2.mono (by omega)))))
 clear b1 b2 P1 P2
 go_enter Tryz.func75,Tryz.ntmps75
 go_wp2
 go_ret
 exact⟨_,_,rfl,X.out.1,X.out.2.1,⟨by omega,by omega⟩,X.out.2.2⟩
structure Fx (p base:Nat) (w0:World) (d1 d2 d3 d4:Value) (f0 f1 f2 f3 f4 f5 f6 f7 f8 f9 f10 f11 f12 f13 f14 f15 f16 f17:Bool) (v4 v5 v6 v7 v8 v9 v10 v11 v12 v13 v14 v15 v16 v17:Value) (w:World):Prop where
 aF:Below base w0 w
 m:f0=true→∃b,v5=.map (some b)∧base≤b∧w.ownsMap Tryz.prog 44 Rfn b 4 (.map (kQ f4 f8 f12 f15 v8 v11 v14 v16))
 l1:f1=true→v6=.pointer (some ⟨p,0,none⟩)
 l2:f5=true→v9=.pointer (some ⟨p,0,none⟩)
 l3:f9=true→v12=.pointer (some ⟨p,0,none⟩)
 l4:f13=true→v15=.pointer (some ⟨p,0,none⟩)
 k1:f2=true→v7=d1
 k2:f6=true→v10=d2
 k3:f10=true→v13=d3
 c1:f3=true→En p base w v8 d1
 c2:f7=true→En p base w v11 d2
 c3:f11=true→En p base w v14 d3
 c4:f14=true→En p base w v16 d4
 i1:f4=true→f0=true∧f3=true
 i2:f8=true→f0=true∧f7=true
 i3:f12=true→f0=true∧f11=true
 i4:f15=true→f0=true∧f14=true
 e:f16=true→v17=v5
 g:f17=true→v4=v17
 e0:f16=true→f0=true
 g0:f17=true→f16=true
section
variable {p base:Nat} {w0 w w':World} {d1 d2 d3 d4:Value} {f0 f1 f2 f3 f4 f5 f6 f7 f8 f9 f10 f11 f12 f13 f14 f15 f16 f17:Bool} {v4 v5 v6 v7 v8 v9 v10 v11 v12 v13 v14 v15 v16 v17:Value}
theorem Fx.mono (h:Fx p base w0 d1 d2 d3 d4 f0 f1 f2 f3 f4 f5 f6 f7 f8 f9 f10 f11 f12 f13 f14 f15 f16 f17 v4 v5 v6 v7 v8 v9 v10 v11 v12 v13 v14 v15 v16 v17 w)(hb:Below w.heap.size w w')(hs:base≤w.heap.size):Fx p base w0 d1 d2 d3 d4 f0 f1 f2 f3 f4 f5 f6 f7 f8 f9 f10 f11 f12 f13 f14 f15 f16 f17 v4 v5 v6 v7 v8 v9 v10 v11 v12 v13 v14 v15 v16 v17 w':=by
 have hm:f0=true→∃b,v5=.map (some b)∧base≤b∧w'.ownsMap Tryz.prog 44 Rfn b 4 (.map (kQ f4 f8 f12 f15 v8 v11 v14 v16)):=fun e=>by
  obtain⟨b,h1,h2,h3⟩:=h.m e
  have hl:=h3.lt
  obtain⟨es,cl,k,r⟩:=h3
  exact⟨b,h1,h2,es,cl,(hb.block b hl).trans k,r⟩
 exact⟨h.aF.trans (hb.mono hs),hm,h.l1,h.l2,h.l3,h.l4,h.k1,h.k2,h.k3,fun e=>(h.c1 e).below hb,fun e=>(h.c2 e).below hb,fun e=>(h.c3 e).below hb,fun e=>(h.c4 e).below hb,h.i1,h.i2,h.i3,h.i4,h.e,h.g,h.e0,h.g0⟩
end
theorem vD (f4 f8 f12 f15:Bool)(v8 v11 v14 v16:Value):(f4=false→(DataW.map (kQ f4 f8 f12 f15 v8 v11 v14 v16)).put (.int .u8 1) (yK v8)=.map (kQ true f8 f12 f15 v8 v11 v14 v16))∧(f8=false→(DataW.map (kQ f4 f8 f12 f15 v8 v11 v14 v16)).put (.int .u8 2) (yK v11)=.map (kQ f4 true f12 f15 v8 v11 v14 v16))∧(f12=false→(DataW.map (kQ f4 f8 f12 f15 v8 v11 v14 v16)).put (.int .u8 3) (yK v14)=.map (kQ f4 f8 true f15 v8 v11 v14 v16))∧(f15=false→(DataW.map (kQ f4 f8 f12 f15 v8 v11 v14 v16)).put (.int .u8 4) (yK v16)=.map (kQ f4 f8 f12 true v8 v11 v14 v16)):=by
 refine⟨?_,?_,?_,?_⟩<;>rintro rfl
 ·cases f8<;>cases f12<;>cases f15<;>rfl
 ·cases f4<;>cases f12<;>cases f15<;>rfl
 ·cases f4<;>cases f8<;>cases f15<;>rfl
 ·cases f4<;>cases f8<;>cases f12<;>rfl
theorem uS (f4 f8 f12 f15:Bool)(v8 v11 v14 v16:Value):Maps.size (DataW.map (kQ f4 f8 f12 f15 v8 v11 v14 v16))≤4:=by
 cases f4<;>cases f8<;>cases f12<;>cases f15<;>simp[kQ,Maps.size]
theorem Tryz.abV:Keyed Tryz.prog 44:=int_keyed Tryz.underlying44
theorem yw {w:World}{b:Nat}{D D':DataW Unit}{v:Value}{gd gs:Nat}(h:w.ownsMap Tryz.prog 44 Rfn b 4 D)(hv:v=jI gd gs){k:Int}(hk:keyOf Tryz.prog 44 (.int .u8 k)=some (.int .u8 k))(hD:D.put (.int .u8 k) (yK v)=D')(hl:Maps.size D'≤4):
  ∃w',(Instr.mapUpdate 98 (.map (some b)) (.int .u8 k) v).run Tryz.prog w=.ok () w'∧w'.ownsMap Tryz.prog 44 Rfn b 4 D'∧w.grownBy w' (some b):=by
 subst hv
 obtain⟨w',h1,h2,h3⟩:=h.update Tryz.abV Tryz.underlying98 (by unfold maxLen;omega) hk (asT gd gs)
 have h2:w'.ownsMap Tryz.prog 44 Rfn b 5 D':=by rw[←hD];exact h2
 exact⟨w',h1,(World.ownsMap.tight h2).mono hl,h3⟩
def JX (p base:Nat) (w0:World) (d1 d2 d3 d4:Value) (g2 g3:Nat) (vm:Value) (L:Array Bool) (a:Act) (w:World):Prop:=∃f0 f1 f2 f3 f4 f5 f6 f7 f8 f9 f10 f11 f12 f13 f14 f15 f16 f17:Bool,∃v4 v5 v6 v7 v8 v9 v10 v11 v12 v13 v14 v15 v16 v17:Value,L=#[f0,f1,f2,f3,f4,f5,f6,f7,f8,f9,f10,f11,f12,f13,f14,f15,f16,f17]∧a={tmps:=#[.pointer (some ⟨p,0,none⟩),vm,.pointer (some ⟨g2,0,none⟩),.pointer (some ⟨g3,0,none⟩),v4,v5,v6,v7,v8,v9,v10,v11,v12,v13,v14,v15,v16,v17],defers:=[]}∧Fx p base w0 d1 d2 d3 d4 f0 f1 f2 f3 f4 f5 f6 f7 f8 f9 f10 f11 f12 f13 f14 f15 f16 f17 v4 v5 v6 v7 v8 v9 v10 v11 v12 v13 v14 v15 v16 v17 w
def PhM (p base:Nat) (w:World) (d1 d2 d3 d4 v:Value):Prop:=∃b u1 u2 u3 u4,v=.map (some b)∧w.ownsMap Tryz.prog 44 Rfn b 4 (.map (kQ true true true true u1 u2 u3 u4))∧En p base w u1 d1∧En p base w u2 d2∧En p base w u3 d3∧En p base w u4 d4
theorem ags (p:Nat)(m:Mw)(w:World):
  Calls Tryz.prog 31 #[.pointer (some ⟨p,0,none⟩),mv m] w fun E w'=>∃v,E=.returned v∧PhM p w.heap.size w' (.func (.func 76) #[] #[.pointer (some ⟨w.heap.size,0,none⟩),.pointer (some ⟨w.heap.size+1,0,none⟩)]) (.func (.func 78) #[] #[.pointer (some ⟨w.heap.size,0,none⟩)]) (.func (.func 80) #[] #[.pointer (some ⟨w.heap.size,0,none⟩)]) (.func (.func 82) #[] #[]) v∧w'.heap[w.heap.size]? =some (.cells #[.pointer (some ⟨p,0,none⟩)] 41 (0,0))∧fq w' (w.heap.size+1) m∧Below w.heap.size w w':=by
 have rG:∀(fn:Fn) (first cap:Array Value) (w:World),(Instr.makeFunc fn first cap).run Tryz.prog w=.ok (.func fn first cap) w:=fun _ _ _ _=>rfl
 obtain⟨w1,hw1,s1,b1,P1⟩:=ak w #[.pointer (some ⟨p,0,none⟩)] 41
 obtain⟨w2,hw2,s2,b2,P2⟩:=qB w1 m
 rw[s1]at P2
 have b02:Below w.heap.size w w2:=b1.trans (b2.mono (by omega))
 have z2:w2.heap.size=w.heap.size+2:=by omega
 have eX:=(b2.block w.heap.size (by omega)).trans P1
 have HP:=hide (And.intro b02 (And.intro eX P2))
 obtain⟨g2,hg2⟩:∃g,g=w.heap.size:=⟨_,rfl⟩
 obtain⟨g3,hg3⟩:∃g,g=w.heap.size+1:=⟨_,rfl⟩
 obtain⟨d1,hd1⟩:∃d:Value,d=.func (.func 76) #[] #[.pointer (some ⟨g2,0,none⟩),.pointer (some ⟨g3,0,none⟩)]:=⟨_,rfl⟩
 obtain⟨d2,hd2⟩:∃d:Value,d=.func (.func 78) #[] #[.pointer (some ⟨g2,0,none⟩)]:=⟨_,rfl⟩
 obtain⟨d3,hd3⟩:∃d:Value,d=.func (.func 80) #[] #[.pointer (some ⟨g2,0,none⟩)]:=⟨_,rfl⟩
 obtain⟨base,hbase⟩:∃b,b=w2.heap.size:=⟨_,rfl⟩
 have HC:Hid (∀W,Below base w2 W→W.cell? ⟨g2,0,none⟩=some (.pointer (some ⟨p,0,none⟩))):=hide fun W hW=>by
  rw[hg2]
  exact ai ((hW.block _ (by omega)).trans eX) 0 rfl
 have HE1:=hide fun W=>nU p d1 _ _ hd1 W
 have HE2:=hide fun W=>nU p d2 _ _ hd2 W
 have HE3:=hide fun W=>nU p d3 _ _ hd3 W
 have HE4:=hide fun W=>nU p (.func (.func 82) #[] #[]) _ _ rfl W
 have HD:=hide (And.intro hd1 (And.intro hd2 hd3))
 obtain⟨RR,hRR⟩:∃RR:Ending→World→Prop,RR=fun E w'=>∃v,E=.returned v∧PhM p w.heap.size w' (.func (.func 76) #[] #[.pointer (some ⟨w.heap.size,0,none⟩),.pointer (some ⟨w.heap.size+1,0,none⟩)]) (.func (.func 78) #[] #[.pointer (some ⟨w.heap.size,0,none⟩)]) (.func (.func 80) #[] #[.pointer (some ⟨w.heap.size,0,none⟩)]) (.func (.func 82) #[] #[]) v∧w'.heap[w.heap.size]? =some (.cells #[.pointer (some ⟨p,0,none⟩)] 41 (0,0))∧fq w' (w.heap.size+1) m∧Below w.heap.size w w':=⟨_,rfl⟩
 rw[←hRR]
 have FIN:Hid (∀W b u1 u2 u3 u4,Below base w2 W→W.ownsMap Tryz.prog 44 Rfn b 4 (.map (kQ true true true true u1 u2 u3 u4))→En p base W u1 d1→En p base W u2 d2→En p base W u3 d3→En p base W u4 (.func (.func 82) #[] #[])→RR (.returned (.map (some b))) W):=hide fun W b u1 u2 u3 u4 hb h1 h2 h3 h4 h5=>by
  subst hd1 hd2 hd3 hg2 hg3 hbase hRR
  have hl:w.heap.size≤w2.heap.size:=by omega
  exact⟨_,rfl,⟨b,u1,u2,u3,u4,rfl,h1,h2.bu hl,h3.bu hl,h4.bu hl,h5.bu hl⟩,(hb.block _ (by omega)).trans eX,(hb.block _ (by omega)).trans P2,b02.trans (hb.mono hl)⟩
 unfold mv
 have aac:w1.alloc (.cells #[.int .i64 m.k,.int .i64 m.e,.int .u8 m.r,.int .i64 m.n,m.vs,.int .i64 m.f,.int .i64 m.p,m.vc] 26)=w2:=hw2
 have aT:w1.heap.size=g3:=by omega
 have qm:w.heap.size=g2:=hg2.symm
 have HB:=hide hbase
 clear b1 b2 P1 P2 eX b02 hd1 hd2 hd3 HP z2 s1 s2 hg2 hg3 hbase hRR
 go_enter Tryz.func31,Tryz.ntmps31
 go_wp2_with fail
 have hsz:(aC 1 Tryz.f31).size=18:=by kernel_rfl
 refine kK (ops:=(aC 1 Tryz.f31)) (S:=fun _=>True) (by kernel_rfl) hsz ?_
 refine ahH (JX p base w2 d1 d2 d3 (.func (.func 82) #[] #[]) g2 g3 (.agg #[.int .i64 m.k,.int .i64 m.e,.int .u8 m.r,.int .i64 m.n,m.vs,.int .i64 m.f,.int .i64 m.p,m.vc])) ?hst ?hen 18 _ _ _ ?h0 ?hn
 case hn=>
  refine Nat.le_trans (List.length_filter_le _ _) ?_
  rw[List.length_range,hsz]
  exact Nat.le_refl _
 case h0=>
  refine⟨false,false,false,false,false,false,false,false,false,false,false,false,false,false,false,false,false,false,_,_,_,_,_,_,_,_,_,_,_,_,_,_,rfl,rfl,⟨(by rw[HB.out];exact(Below.refl _ _).drew),(fun h=>by cases h),(fun h=>by cases h),(fun h=>by cases h),(fun h=>by cases h),(fun h=>by cases h),(fun h=>by cases h),(fun h=>by cases h),(fun h=>by cases h),(fun h=>by cases h),(fun h=>by cases h),(fun h=>by cases h),(fun h=>by cases h),(fun h=>by cases h),(fun h=>by cases h),(fun h=>by cases h),(fun h=>by cases h),(fun h=>by cases h),(fun h=>by cases h),(fun h=>by cases h),(fun h=>by cases h)⟩⟩
 case hen=>
  rintro L a W ⟨f0,f1,f2,f3,f4,f5,f6,f7,f8,f9,f10,f11,f12,f13,f14,f15,f16,f17,v4,v5,v6,v7,v8,v9,v10,v11,v12,v13,v14,v15,v16,v17,rfl,rfl,X⟩ hr
  have al:=acA (by kernel_rfl) (show _=(aC 1 Tryz.f31).size by rw[hsz];rfl) hr
  rw[hsz]at al
  obtain rfl:f0=true:=by simpa using al 0 (by omega)
  obtain rfl:f3=true:=by simpa using al 3 (by omega)
  obtain rfl:f4=true:=by simpa using al 4 (by omega)
  obtain rfl:f7=true:=by simpa using al 7 (by omega)
  obtain rfl:f8=true:=by simpa using al 8 (by omega)
  obtain rfl:f11=true:=by simpa using al 11 (by omega)
  obtain rfl:f12=true:=by simpa using al 12 (by omega)
  obtain rfl:f14=true:=by simpa using al 14 (by omega)
  obtain rfl:f15=true:=by simpa using al 15 (by omega)
  obtain rfl:f16=true:=by simpa using al 16 (by omega)
  obtain rfl:f17=true:=by simpa using al 17 (by omega)
  obtain rfl:=X.g rfl
  obtain rfl:=X.e rfl
  obtain⟨b,rfl,_,lL⟩:=X.m rfl
  have FF:=hide (FIN.out W b _ _ _ _ X.aF lL (X.c1 rfl) (X.c2 rfl) (X.c3 rfl) (X.c4 rfl))
  clear X lL FIN HE1 HE2 HE3 HE4 hr al
  go_wp2
  exact FF.out
 case hst=>
  rintro L a w i ⟨f0,f1,f2,f3,f4,f5,f6,f7,f8,f9,f10,f11,f12,f13,f14,f15,f16,f17,v4,v5,v6,v7,v8,v9,v10,v11,v12,v13,v14,v15,v16,v17,rfl,rfl,X⟩ hi
  have hs:base≤w.heap.size:=by rw[HB.out];exact X.aF.size
  have ayj:=(dJ hi).1
  rw[hsz]at ayj
  rcases(show i=0∨i=1∨i=2∨i=3∨i=4∨i=5∨i=6∨i=7∨i=8∨i=9∨i=10∨i=11∨i=12∨i=13∨i=14∨i=15∨i=16∨i=17 by omega)with rfl|rfl|rfl|rfl|rfl|rfl|rfl|rfl|rfl|rfl|rfl|rfl|rfl|rfl|rfl|rfl|rfl|rfl
  ·obtain rfl:f0=false:=by simpa using(dJ hi).2
   obtain rfl:f4=false:=by cases f4 with|false=>rfl|true=>exact absurd (X.i1 rfl).1 (by simp)
   obtain rfl:f8=false:=by cases f8 with|false=>rfl|true=>exact absurd (X.i2 rfl).1 (by simp)
   obtain rfl:f12=false:=by cases f12 with|false=>rfl|true=>exact absurd (X.i3 rfl).1 (by simp)
   obtain rfl:f15=false:=by cases f15 with|false=>rfl|true=>exact absurd (X.i4 rfl).1 (by simp)
   obtain rfl:f16=false:=by cases f16 with|false=>rfl|true=>exact absurd (X.e0 rfl) (by simp)
   obtain rfl:f17=false:=by cases f17 with|false=>rfl|true=>exact absurd (X.g0 rfl) (by simp)
   have hbm:Below w.heap.size w (w.alloc (.map #[] 0)):=(Below.refl _ _).alloc (Nat.le_refl _) _
   have Y:=X.mono hbm hs
   have lL:=(World.ownsMap_made w Tryz.prog 44 Rfn).mono (show 0≤4 by omega)
   clear hbm
   refine fB (i:=0) rfl (by rfl) (fun K hK=>?_)
   go_simp
   go_wp2_with fail
   refine hK.out _ _ trivial ⟨_,_,_,_,_,_,_,_,_,_,_,_,_,_,_,_,_,_,_,_,_,_,_,_,_,_,_,_,_,_,_,_,rfl,rfl,?_⟩
   exact⟨Y.aF,fun _=>⟨_,rfl,hs,lL⟩,Y.l1,Y.l2,Y.l3,Y.l4,Y.k1,Y.k2,Y.k3,Y.c1,Y.c2,Y.c3,Y.c4,(fun h=>by cases h),(fun h=>by cases h),(fun h=>by cases h),(fun h=>by cases h),(fun h=>by cases h),(fun h=>by cases h),(fun h=>by cases h),(fun h=>by cases h)⟩
  ·obtain rfl:f1=false:=by simpa using(dJ hi).2
   have c2:=HC.out w X.aF
   refine fB (i:=1) rfl (by rfl) (fun K hK=>?_)
   go_simp
   go_wp2_with fail
   refine hK.out _ _ trivial ⟨_,_,_,_,_,_,_,_,_,_,_,_,_,_,_,_,_,_,_,_,_,_,_,_,_,_,_,_,_,_,_,_,rfl,rfl,?_⟩
   exact⟨X.aF,X.m,fun _=>rfl,X.l2,X.l3,X.l4,X.k1,X.k2,X.k3,X.c1,X.c2,X.c3,X.c4,X.i1,X.i2,X.i3,X.i4,X.e,X.g,X.e0,X.g0⟩
  ·obtain rfl:f2=false:=by simpa using(dJ hi).2
   refine fB (i:=2) rfl (by rfl) (fun K hK=>?_)
   go_simp
   go_wp2_with fail
   refine hK.out _ _ trivial ⟨_,_,_,_,_,_,_,_,_,_,_,_,_,_,_,_,_,_,_,_,_,_,_,_,_,_,_,_,_,_,_,_,rfl,rfl,?_⟩
   exact⟨X.aF,X.m,X.l1,X.l2,X.l3,X.l4,fun _=>HD.out.1.symm,X.k2,X.k3,X.c1,X.c2,X.c3,X.c4,X.i1,X.i2,X.i3,X.i4,X.e,X.g,X.e0,X.g0⟩
  ·obtain rfl:f1=true:=by simpa using aM hi (show dC (aC 1 Tryz.f31) 3 1=true by kernel_rfl)
   obtain rfl:f2=true:=by simpa using aM hi (show dC (aC 1 Tryz.f31) 3 2=true by kernel_rfl)
   obtain rfl:f3=false:=by simpa using(dJ hi).2
   obtain rfl:f4=false:=by cases f4 with|false=>rfl|true=>exact absurd (X.i1 rfl).2 (by simp)
   obtain rfl:v6=.pointer (some ⟨p,0,none⟩):=X.l1 rfl
   obtain rfl:d1=v7:=(X.k1 rfl).symm
   refine fB (i:=3) rfl (by rfl) (fun K hK=>?_)
   go_simp
   refine(HE1.out w).mono ?_
   rintro E w' ⟨gd,gs,rfl,q1,q2,⟨q3,q4⟩,hb⟩
   have Y:=X.mono hb hs
   have q5:En p base w' (jI gd gs) d1:=⟨gd,gs,rfl,q1,q2,Nat.le_trans hs q3,Nat.le_trans hs q4⟩
   clear q1 q2 q3 q4 hb
   go_wp2_with fail
   refine hK.out _ _ trivial ⟨_,_,_,_,_,_,_,_,_,_,_,_,_,_,_,_,_,_,_,_,_,_,_,_,_,_,_,_,_,_,_,_,rfl,rfl,?_⟩
   exact⟨Y.aF,Y.m,Y.l1,Y.l2,Y.l3,Y.l4,Y.k1,Y.k2,Y.k3,fun _=>q5,Y.c2,Y.c3,Y.c4,(fun h=>by cases h),Y.i2,Y.i3,Y.i4,Y.e,Y.g,Y.e0,Y.g0⟩
  ·obtain rfl:f0=true:=by simpa using aM hi (show dC (aC 1 Tryz.f31) 4 0=true by kernel_rfl)
   obtain rfl:f3=true:=by simpa using aM hi (show dC (aC 1 Tryz.f31) 4 3=true by kernel_rfl)
   obtain rfl:f4=false:=by simpa using(dJ hi).2
   obtain⟨gd,gs,rfl,_⟩:=X.c1 rfl
   obtain⟨b,rfl,hbb,lL⟩:=X.m rfl
   obtain⟨w',hrun,aah,hg⟩:=yw lL rfl (k:=1) (by kernel_rfl) ((vD false f8 f12 f15 (jI gd gs) v11 v14 v16).1 rfl) (uS _ _ _ _ _ _ _ _)
   obtain⟨es,cl,hblk,_⟩:=lL
   have Y:Below base w2 w':=aB X.aF hg hbb hs
   have y1:=hide fun e=>(X.c1 e).grown hblk hg
   have y2:=hide fun e=>(X.c2 e).grown hblk hg
   have y3:=hide fun e=>(X.c3 e).grown hblk hg
   have y4:=hide fun e=>(X.c4 e).grown hblk hg
   clear hg hblk
   refine fB (i:=4) rfl (by rfl) (fun K hK=>?_)
   go_simp
   go_wp2_with fail
   refine hK.out _ _ trivial ⟨_,_,_,_,_,_,_,_,_,_,_,_,_,_,_,_,_,_,_,_,_,_,_,_,_,_,_,_,_,_,_,_,rfl,rfl,?_⟩
   exact⟨Y,fun _=>⟨b,rfl,hbb,aah⟩,X.l1,X.l2,X.l3,X.l4,X.k1,X.k2,X.k3,(fun e=>y1.out (by first|exact e|trivial)),(fun e=>y2.out (by first|exact e|trivial)),(fun e=>y3.out (by first|exact e|trivial)),(fun e=>y4.out (by first|exact e|trivial)),fun _=>⟨rfl,rfl⟩,X.i2,X.i3,X.i4,X.e,X.g,X.e0,X.g0⟩
  ·obtain rfl:f5=false:=by simpa using(dJ hi).2
   have c2:=HC.out w X.aF
   refine fB (i:=5) rfl (by rfl) (fun K hK=>?_)
   go_simp
   go_wp2_with fail
   refine hK.out _ _ trivial ⟨_,_,_,_,_,_,_,_,_,_,_,_,_,_,_,_,_,_,_,_,_,_,_,_,_,_,_,_,_,_,_,_,rfl,rfl,?_⟩
   exact⟨X.aF,X.m,X.l1,fun _=>rfl,X.l3,X.l4,X.k1,X.k2,X.k3,X.c1,X.c2,X.c3,X.c4,X.i1,X.i2,X.i3,X.i4,X.e,X.g,X.e0,X.g0⟩
  ·obtain rfl:f6=false:=by simpa using(dJ hi).2
   refine fB (i:=6) rfl (by rfl) (fun K hK=>?_)
   go_simp
   go_wp2_with fail
   refine hK.out _ _ trivial ⟨_,_,_,_,_,_,_,_,_,_,_,_,_,_,_,_,_,_,_,_,_,_,_,_,_,_,_,_,_,_,_,_,rfl,rfl,?_⟩
   exact⟨X.aF,X.m,X.l1,X.l2,X.l3,X.l4,X.k1,fun _=>HD.out.2.1.symm,X.k3,X.c1,X.c2,X.c3,X.c4,X.i1,X.i2,X.i3,X.i4,X.e,X.g,X.e0,X.g0⟩
  ·obtain rfl:f3=true:=by simpa using aM hi (show dC (aC 1 Tryz.f31) 7 3=true by kernel_rfl)
   obtain rfl:f5=true:=by simpa using aM hi (show dC (aC 1 Tryz.f31) 7 5=true by kernel_rfl)
   obtain rfl:f6=true:=by simpa using aM hi (show dC (aC 1 Tryz.f31) 7 6=true by kernel_rfl)
   obtain rfl:f7=false:=by simpa using(dJ hi).2
   obtain rfl:f8=false:=by cases f8 with|false=>rfl|true=>exact absurd (X.i2 rfl).2 (by simp)
   obtain rfl:v9=.pointer (some ⟨p,0,none⟩):=X.l2 rfl
   obtain rfl:d2=v10:=(X.k2 rfl).symm
   refine fB (i:=7) rfl (by rfl) (fun K hK=>?_)
   go_simp
   refine(HE2.out w).mono ?_
   rintro E w' ⟨gd,gs,rfl,q1,q2,⟨q3,q4⟩,hb⟩
   have Y:=X.mono hb hs
   have q5:En p base w' (jI gd gs) d2:=⟨gd,gs,rfl,q1,q2,Nat.le_trans hs q3,Nat.le_trans hs q4⟩
   clear q1 q2 q3 q4 hb
   go_wp2_with fail
   refine hK.out _ _ trivial ⟨_,_,_,_,_,_,_,_,_,_,_,_,_,_,_,_,_,_,_,_,_,_,_,_,_,_,_,_,_,_,_,_,rfl,rfl,?_⟩
   exact⟨Y.aF,Y.m,Y.l1,Y.l2,Y.l3,Y.l4,Y.k1,Y.k2,Y.k3,Y.c1,fun _=>q5,Y.c3,Y.c4,Y.i1,(fun h=>by cases h),Y.i3,Y.i4,Y.e,Y.g,Y.e0,Y.g0⟩
  ·obtain rfl:f0=true:=by simpa using aM hi (show dC (aC 1 Tryz.f31) 8 0=true by kernel_rfl)
   obtain rfl:f7=true:=by simpa using aM hi (show dC (aC 1 Tryz.f31) 8 7=true by kernel_rfl)
   obtain rfl:f8=false:=by simpa using(dJ hi).2
   obtain⟨gd,gs,rfl,_⟩:=X.c2 rfl
   obtain⟨b,rfl,hbb,lL⟩:=X.m rfl
   obtain⟨w',hrun,aah,hg⟩:=yw lL rfl (k:=2) (by kernel_rfl) ((vD f4 false f12 f15 v8 (jI gd gs) v14 v16).2.1 rfl) (uS _ _ _ _ _ _ _ _)
   obtain⟨es,cl,hblk,_⟩:=lL
   have Y:Below base w2 w':=aB X.aF hg hbb hs
   have y1:=hide fun e=>(X.c1 e).grown hblk hg
   have y2:=hide fun e=>(X.c2 e).grown hblk hg
   have y3:=hide fun e=>(X.c3 e).grown hblk hg
   have y4:=hide fun e=>(X.c4 e).grown hblk hg
   clear hg hblk
   refine fB (i:=8) rfl (by rfl) (fun K hK=>?_)
   go_simp
   go_wp2_with fail
   refine hK.out _ _ trivial ⟨_,_,_,_,_,_,_,_,_,_,_,_,_,_,_,_,_,_,_,_,_,_,_,_,_,_,_,_,_,_,_,_,rfl,rfl,?_⟩
   exact⟨Y,fun _=>⟨b,rfl,hbb,aah⟩,X.l1,X.l2,X.l3,X.l4,X.k1,X.k2,X.k3,(fun e=>y1.out (by first|exact e|trivial)),(fun e=>y2.out (by first|exact e|trivial)),(fun e=>y3.out (by first|exact e|trivial)),(fun e=>y4.out (by first|exact e|trivial)),X.i1,fun _=>⟨rfl,rfl⟩,X.i3,X.i4,X.e,X.g,X.e0,X.g0⟩
  ·obtain rfl:f9=false:=by simpa using(dJ hi).2
   have c2:=HC.out w X.aF
   refine fB (i:=9) rfl (by rfl) (fun K hK=>?_)
   go_simp
   go_wp2_with fail
   refine hK.out _ _ trivial ⟨_,_,_,_,_,_,_,_,_,_,_,_,_,_,_,_,_,_,_,_,_,_,_,_,_,_,_,_,_,_,_,_,rfl,rfl,?_⟩
   exact⟨X.aF,X.m,X.l1,X.l2,fun _=>rfl,X.l4,X.k1,X.k2,X.k3,X.c1,X.c2,X.c3,X.c4,X.i1,X.i2,X.i3,X.i4,X.e,X.g,X.e0,X.g0⟩
  ·obtain rfl:f10=false:=by simpa using(dJ hi).2
   refine fB (i:=10) rfl (by rfl) (fun K hK=>?_)
   go_simp
   go_wp2_with fail
   refine hK.out _ _ trivial ⟨_,_,_,_,_,_,_,_,_,_,_,_,_,_,_,_,_,_,_,_,_,_,_,_,_,_,_,_,_,_,_,_,rfl,rfl,?_⟩
   exact⟨X.aF,X.m,X.l1,X.l2,X.l3,X.l4,X.k1,X.k2,fun _=>HD.out.2.2.symm,X.c1,X.c2,X.c3,X.c4,X.i1,X.i2,X.i3,X.i4,X.e,X.g,X.e0,X.g0⟩
  ·obtain rfl:f7=true:=by simpa using aM hi (show dC (aC 1 Tryz.f31) 11 7=true by kernel_rfl)
   obtain rfl:f9=true:=by simpa using aM hi (show dC (aC 1 Tryz.f31) 11 9=true by kernel_rfl)
   obtain rfl:f10=true:=by simpa using aM hi (show dC (aC 1 Tryz.f31) 11 10=true by kernel_rfl)
   obtain rfl:f11=false:=by simpa using(dJ hi).2
   obtain rfl:f12=false:=by cases f12 with|false=>rfl|true=>exact absurd (X.i3 rfl).2 (by simp)
   obtain rfl:v12=.pointer (some ⟨p,0,none⟩):=X.l3 rfl
   obtain rfl:d3=v13:=(X.k3 rfl).symm
   refine fB (i:=11) rfl (by rfl) (fun K hK=>?_)
   go_simp
   refine(HE3.out w).mono ?_
   rintro E w' ⟨gd,gs,rfl,q1,q2,⟨q3,q4⟩,hb⟩
   have Y:=X.mono hb hs
   have q5:En p base w' (jI gd gs) d3:=⟨gd,gs,rfl,q1,q2,Nat.le_trans hs q3,Nat.le_trans hs q4⟩
   clear q1 q2 q3 q4 hb
   go_wp2_with fail
   refine hK.out _ _ trivial ⟨_,_,_,_,_,_,_,_,_,_,_,_,_,_,_,_,_,_,_,_,_,_,_,_,_,_,_,_,_,_,_,_,rfl,rfl,?_⟩
   exact⟨Y.aF,Y.m,Y.l1,Y.l2,Y.l3,Y.l4,Y.k1,Y.k2,Y.k3,Y.c1,Y.c2,fun _=>q5,Y.c4,Y.i1,Y.i2,(fun h=>by cases h),Y.i4,Y.e,Y.g,Y.e0,Y.g0⟩
  ·obtain rfl:f0=true:=by simpa using aM hi (show dC (aC 1 Tryz.f31) 12 0=true by kernel_rfl)
   obtain rfl:f11=true:=by simpa using aM hi (show dC (aC 1 Tryz.f31) 12 11=true by kernel_rfl)
   obtain rfl:f12=false:=by simpa using(dJ hi).2
   obtain⟨gd,gs,rfl,_⟩:=X.c3 rfl
   obtain⟨b,rfl,hbb,lL⟩:=X.m rfl
   obtain⟨w',hrun,aah,hg⟩:=yw lL rfl (k:=3) (by kernel_rfl) ((vD f4 f8 false f15 v8 v11 (jI gd gs) v16).2.2.1 rfl) (uS _ _ _ _ _ _ _ _)
   obtain⟨es,cl,hblk,_⟩:=lL
   have Y:Below base w2 w':=aB X.aF hg hbb hs
   have y1:=hide fun e=>(X.c1 e).grown hblk hg
   have y2:=hide fun e=>(X.c2 e).grown hblk hg
   have y3:=hide fun e=>(X.c3 e).grown hblk hg
   have y4:=hide fun e=>(X.c4 e).grown hblk hg
   clear hg hblk
   refine fB (i:=12) rfl (by rfl) (fun K hK=>?_)
   go_simp
   go_wp2_with fail
   refine hK.out _ _ trivial ⟨_,_,_,_,_,_,_,_,_,_,_,_,_,_,_,_,_,_,_,_,_,_,_,_,_,_,_,_,_,_,_,_,rfl,rfl,?_⟩
   exact⟨Y,fun _=>⟨b,rfl,hbb,aah⟩,X.l1,X.l2,X.l3,X.l4,X.k1,X.k2,X.k3,(fun e=>y1.out (by first|exact e|trivial)),(fun e=>y2.out (by first|exact e|trivial)),(fun e=>y3.out (by first|exact e|trivial)),(fun e=>y4.out (by first|exact e|trivial)),X.i1,X.i2,fun _=>⟨rfl,rfl⟩,X.i4,X.e,X.g,X.e0,X.g0⟩
  ·obtain rfl:f13=false:=by simpa using(dJ hi).2
   have c2:=HC.out w X.aF
   refine fB (i:=13) rfl (by rfl) (fun K hK=>?_)
   go_simp
   go_wp2_with fail
   refine hK.out _ _ trivial ⟨_,_,_,_,_,_,_,_,_,_,_,_,_,_,_,_,_,_,_,_,_,_,_,_,_,_,_,_,_,_,_,_,rfl,rfl,?_⟩
   exact⟨X.aF,X.m,X.l1,X.l2,X.l3,fun _=>rfl,X.k1,X.k2,X.k3,X.c1,X.c2,X.c3,X.c4,X.i1,X.i2,X.i3,X.i4,X.e,X.g,X.e0,X.g0⟩
  ·obtain rfl:f11=true:=by simpa using aM hi (show dC (aC 1 Tryz.f31) 14 11=true by kernel_rfl)
   obtain rfl:f13=true:=by simpa using aM hi (show dC (aC 1 Tryz.f31) 14 13=true by kernel_rfl)
   obtain rfl:f14=false:=by simpa using(dJ hi).2
   obtain rfl:f15=false:=by cases f15 with|false=>rfl|true=>exact absurd (X.i4 rfl).2 (by simp)
   obtain rfl:v15=.pointer (some ⟨p,0,none⟩):=X.l4 rfl
   refine fB (i:=14) rfl (by rfl) (fun K hK=>?_)
   go_simp
   refine(HE4.out w).mono ?_
   rintro E w' ⟨gd,gs,rfl,q1,q2,⟨q3,q4⟩,hb⟩
   have Y:=X.mono hb hs
   have q5:En p base w' (jI gd gs) (.func (.func 82) #[] #[]):=⟨gd,gs,rfl,q1,q2,Nat.le_trans hs q3,Nat.le_trans hs q4⟩
   clear q1 q2 q3 q4 hb
   go_wp2_with fail
   refine hK.out _ _ trivial ⟨_,_,_,_,_,_,_,_,_,_,_,_,_,_,_,_,_,_,_,_,_,_,_,_,_,_,_,_,_,_,_,_,rfl,rfl,?_⟩
   exact⟨Y.aF,Y.m,Y.l1,Y.l2,Y.l3,Y.l4,Y.k1,Y.k2,Y.k3,Y.c1,Y.c2,Y.c3,fun _=>q5,Y.i1,Y.i2,Y.i3,(fun h=>by cases h),Y.e,Y.g,Y.e0,Y.g0⟩
  ·obtain rfl:f0=true:=by simpa using aM hi (show dC (aC 1 Tryz.f31) 15 0=true by kernel_rfl)
   obtain rfl:f14=true:=by simpa using aM hi (show dC (aC 1 Tryz.f31) 15 14=true by kernel_rfl)
   obtain rfl:f15=false:=by simpa using(dJ hi).2
   obtain⟨gd,gs,rfl,_⟩:=X.c4 rfl
   obtain⟨b,rfl,hbb,lL⟩:=X.m rfl
   obtain⟨w',hrun,aah,hg⟩:=yw lL rfl (k:=4) (by kernel_rfl) ((vD f4 f8 f12 false v8 v11 v14 (jI gd gs)).2.2.2 rfl) (uS _ _ _ _ _ _ _ _)
   obtain⟨es,cl,hblk,_⟩:=lL
   have Y:Below base w2 w':=aB X.aF hg hbb hs
   have y1:=hide fun e=>(X.c1 e).grown hblk hg
   have y2:=hide fun e=>(X.c2 e).grown hblk hg
   have y3:=hide fun e=>(X.c3 e).grown hblk hg
   have y4:=hide fun e=>(X.c4 e).grown hblk hg
   clear hg hblk
   refine fB (i:=15) rfl (by rfl) (fun K hK=>?_)
   go_simp
   go_wp2_with fail
   refine hK.out _ _ trivial ⟨_,_,_,_,_,_,_,_,_,_,_,_,_,_,_,_,_,_,_,_,_,_,_,_,_,_,_,_,_,_,_,_,rfl,rfl,?_⟩
   exact⟨Y,fun _=>⟨b,rfl,hbb,aah⟩,X.l1,X.l2,X.l3,X.l4,X.k1,X.k2,X.k3,(fun e=>y1.out (by first|exact e|trivial)),(fun e=>y2.out (by first|exact e|trivial)),(fun e=>y3.out (by first|exact e|trivial)),(fun e=>y4.out (by first|exact e|trivial)),X.i1,X.i2,X.i3,fun _=>⟨rfl,rfl⟩,X.e,X.g,X.e0,X.g0⟩
  ·obtain rfl:f0=true:=by simpa using aM hi (show dC (aC 1 Tryz.f31) 16 0=true by kernel_rfl)
   obtain rfl:f1=true:=by simpa using aM hi (show dC (aC 1 Tryz.f31) 16 1=true by kernel_rfl)
   obtain rfl:f2=true:=by simpa using aM hi (show dC (aC 1 Tryz.f31) 16 2=true by kernel_rfl)
   obtain rfl:f3=true:=by simpa using aM hi (show dC (aC 1 Tryz.f31) 16 3=true by kernel_rfl)
   obtain rfl:f4=true:=by simpa using aM hi (show dC (aC 1 Tryz.f31) 16 4=true by kernel_rfl)
   obtain rfl:f5=true:=by simpa using aM hi (show dC (aC 1 Tryz.f31) 16 5=true by kernel_rfl)
   obtain rfl:f6=true:=by simpa using aM hi (show dC (aC 1 Tryz.f31) 16 6=true by kernel_rfl)
   obtain rfl:f7=true:=by simpa using aM hi (show dC (aC 1 Tryz.f31) 16 7=true by kernel_rfl)
   obtain rfl:f8=true:=by simpa using aM hi (show dC (aC 1 Tryz.f31) 16 8=true by kernel_rfl)
   obtain rfl:f9=true:=by simpa using aM hi (show dC (aC 1 Tryz.f31) 16 9=true by kernel_rfl)
   obtain rfl:f10=true:=by simpa using aM hi (show dC (aC 1 Tryz.f31) 16 10=true by kernel_rfl)
   obtain rfl:f11=true:=by simpa using aM hi (show dC (aC 1 Tryz.f31) 16 11=true by kernel_rfl)
   obtain rfl:f12=true:=by simpa using aM hi (show dC (aC 1 Tryz.f31) 16 12=true by kernel_rfl)
   obtain rfl:f13=true:=by simpa using aM hi (show dC (aC 1 Tryz.f31) 16 13=true by kernel_rfl)
   obtain rfl:f14=true:=by simpa using aM hi (show dC (aC 1 Tryz.f31) 16 14=true by kernel_rfl)
   obtain rfl:f15=true:=by simpa using aM hi (show dC (aC 1 Tryz.f31) 16 15=true by kernel_rfl)
   obtain rfl:f16=false:=by simpa using(dJ hi).2
   obtain rfl:f17=false:=by cases f17 with|false=>rfl|true=>exact absurd (X.g0 rfl) (by simp)
   refine fB (i:=16) rfl (by rfl) (fun K hK=>?_)
   go_simp
   go_wp2_with fail
   refine hK.out _ _ trivial ⟨_,_,_,_,_,_,_,_,_,_,_,_,_,_,_,_,_,_,_,_,_,_,_,_,_,_,_,_,_,_,_,_,rfl,rfl,?_⟩
   exact⟨X.aF,X.m,X.l1,X.l2,X.l3,X.l4,X.k1,X.k2,X.k3,X.c1,X.c2,X.c3,X.c4,X.i1,X.i2,X.i3,X.i4,fun _=>rfl,(fun h=>by cases h),fun _=>rfl,(fun h=>by cases h)⟩
  ·obtain rfl:f0=true:=by simpa using aM hi (show dC (aC 1 Tryz.f31) 17 0=true by kernel_rfl)
   obtain rfl:f1=true:=by simpa using aM hi (show dC (aC 1 Tryz.f31) 17 1=true by kernel_rfl)
   obtain rfl:f2=true:=by simpa using aM hi (show dC (aC 1 Tryz.f31) 17 2=true by kernel_rfl)
   obtain rfl:f3=true:=by simpa using aM hi (show dC (aC 1 Tryz.f31) 17 3=true by kernel_rfl)
   obtain rfl:f4=true:=by simpa using aM hi (show dC (aC 1 Tryz.f31) 17 4=true by kernel_rfl)
   obtain rfl:f5=true:=by simpa using aM hi (show dC (aC 1 Tryz.f31) 17 5=true by kernel_rfl)
   obtain rfl:f6=true:=by simpa using aM hi (show dC (aC 1 Tryz.f31) 17 6=true by kernel_rfl)
   obtain rfl:f7=true:=by simpa using aM hi (show dC (aC 1 Tryz.f31) 17 7=true by kernel_rfl)
   obtain rfl:f8=true:=by simpa using aM hi (show dC (aC 1 Tryz.f31) 17 8=true by kernel_rfl)
   obtain rfl:f9=true:=by simpa using aM hi (show dC (aC 1 Tryz.f31) 17 9=true by kernel_rfl)
   obtain rfl:f10=true:=by simpa using aM hi (show dC (aC 1 Tryz.f31) 17 10=true by kernel_rfl)
   obtain rfl:f11=true:=by simpa using aM hi (show dC (aC 1 Tryz.f31) 17 11=true by kernel_rfl)
   obtain rfl:f12=true:=by simpa using aM hi (show dC (aC 1 Tryz.f31) 17 12=true by kernel_rfl)
   obtain rfl:f13=true:=by simpa using aM hi (show dC (aC 1 Tryz.f31) 17 13=true by kernel_rfl)
   obtain rfl:f14=true:=by simpa using aM hi (show dC (aC 1 Tryz.f31) 17 14=true by kernel_rfl)
   obtain rfl:f15=true:=by simpa using aM hi (show dC (aC 1 Tryz.f31) 17 15=true by kernel_rfl)
   obtain rfl:f16=true:=by simpa using aM hi (show dC (aC 1 Tryz.f31) 17 16=true by kernel_rfl)
   obtain rfl:f17=false:=by simpa using(dJ hi).2
   refine fB (i:=17) rfl (by rfl) (fun K hK=>?_)
   go_simp
   go_wp2_with fail
   refine hK.out _ _ trivial ⟨_,_,_,_,_,_,_,_,_,_,_,_,_,_,_,_,_,_,_,_,_,_,_,_,_,_,_,_,_,_,_,_,rfl,rfl,?_⟩
   exact⟨X.aF,X.m,X.l1,X.l2,X.l3,X.l4,X.k1,X.k2,X.k3,X.c1,X.c2,X.c3,X.c4,X.i1,X.i2,X.i3,X.i4,X.e,fun _=>rfl,X.e0,fun _=>rfl⟩
end Go.Proofs.YtmngcecomcadkaaGreatDoor
