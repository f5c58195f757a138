/- Texts of one layer, one behind the other. -/
set_option maxRecDepth 100000
set_option maxHeartbeats 8000000
namespace Go.Proofs.YtpifdeoepppadaaGreatDoor.Vm
def enc (x:Nat):List Int:=if _h:x<128 then [(x:Int)]else((x % 128+128:Nat):Int)::enc (x / 128)
def sz (x:Nat):Nat:=(enc x).length
theorem mK {x:Nat}(h:x<128):enc x=[(x:Int)]:=by rw[enc,dif_pos h]
theorem qP {x:Nat}(h:¬x<128):enc x=((x % 128+128:Nat):Int)::enc (x / 128):=by rw[enc,dif_neg h]
theorem iO {x:Nat}(h:x<128):sz x=1:=by unfold sz;rw[mK h];rfl
theorem afK {x:Nat}(h:¬x<128):sz x=sz (x / 128)+1:=by unfold sz;rw[qP h];rfl
theorem sJ (x:Nat):1≤sz x:=by
 by_cases h:x<128
 ·rw[iO h];omega
 ·rw[afK h];omega
theorem tH:∀(k x:Nat),x<128 ^ (k+1)→sz x≤k+1:=by
 intro k
 induction k with
 |zero=>intro x h;rw[iO (by simpa using h)];omega
 |succ k ih=>
  intro x h
  by_cases hx:x<128
  ·rw[iO hx];omega
  ·rw[afK hx]
   have:x / 128<128 ^ (k+1):=by
    rw[Nat.div_lt_iff_lt_mul (by omega)]
    rw[Nat.pow_succ]at h
    exact h
   have:=ih _ this
   omega
theorem gK {x:Nat}(h:x<18446744073709551616):sz x≤10:=
 tH 9 x (Nat.lt_of_lt_of_le h (by decide))
theorem jI {a b:Int}{l m:List Int}:a::l<+:b::m↔a=b∧l<+:m:=List.cons_prefix_cons
theorem pre_nil (y:Nat):¬enc y<+:[]:=by
 intro h
 rw[List.prefix_nil]at h
 have:=sJ y
 unfold sz at this
 rw[h]at this
 simp at this
theorem acS {y:Nat}{c:Int}{rest:List Int}(hc:c<128):enc y<+:c::rest↔(y:Int)=c:=by
 by_cases h:y<128
 ·rw[mK h,jI]
  simp
 ·rw[qP h,jI]
  constructor
  ·intro h;omega
  ·intro h;omega
theorem amQ {y:Nat}{c:Int}{rest:List Int}(hc:128≤c)(hc2:c<256):enc y<+:c::rest↔∃y',1≤y'∧y=(c-128).toNat+128*y'∧enc y'<+:rest:=by
 by_cases h:y<128
 ·rw[mK h,jI]
  constructor
  ·intro h;omega
  ·rintro⟨y',h1,h2,_⟩;omega
 ·rw[qP h,jI]
  constructor
  ·rintro⟨h1,h2⟩
   exact⟨y / 128,by omega,by omega,h2⟩
  ·rintro⟨y',h1,h2,h3⟩
   have:y / 128=y':=by omega
   rw[this]
   exact⟨by omega,h3⟩
theorem bI:∀(bs:List Int) (x y:Nat),enc x<+:bs→enc y<+:bs→x=y
 |[],x,_,hx,_=>absurd hx (pre_nil x)
 |c::rest,x,y,hx,hy=>by
  by_cases hx1:x<128
  ·rw[mK hx1,jI]at hx
   rw[acS (by omega)]at hy
   omega
  ·by_cases hy1:y<128
   ·rw[mK hy1,jI]at hy
    rw[acS (by omega)]at hx
    omega
   ·rw[qP hx1,jI]at hx
    rw[qP hy1,jI]at hy
    have:=bI rest _ _ hx.2 hy.2
    omega
def Res (bs:List Int) (x n e:Int):Prop:=
 (∃u:Nat,u<18446744073709551616∧enc u<+:bs∧x=u∧n=sz u∧e=0)∨((∀u:Nat,u<18446744073709551616→¬enc u<+:bs)∧x=0∧n=0∧e=5)
theorem awE (bs:List Int):∃x n e,Res bs x n e:=by
 by_cases h:∃u:Nat,u<18446744073709551616∧enc u<+:bs
 ·obtain⟨u,h1,h2⟩:=h
  exact⟨u,sz u,0,.inl ⟨u,h1,h2,rfl,rfl,rfl⟩⟩
 ·exact⟨0,0,5,.inr ⟨fun u h1 h2=>h ⟨u,h1,h2⟩,rfl,rfl,rfl⟩⟩
theorem uF {bs:List Int}{x n e:Int}(h:Res bs x n e)(hb:∀u:Nat,u<18446744073709551616→¬enc u<+:bs):x=0∧n=0∧e=5:=by
 rcases h with⟨u,h1,h2,_⟩|⟨_,h⟩
 ·exact absurd h2 (hb u h1)
 ·exact h
theorem nQ {bs:List Int}{x n e:Int}(h:Res bs x n e){u:Nat}(h1:u<18446744073709551616)(h2:enc u<+:bs):x=u∧n=sz u∧e=0:=by
 rcases h with⟨v,h3,h4,h⟩|⟨hb,_⟩
 ·have:=bI bs u v h2 h4
  subst this
  exact h
 ·exact absurd h2 (hb u h1)
theorem kV {bs:List Int}{x n e:Int}(h:Res bs x n e):0≤x∧x<18446744073709551616∧0≤n∧n≤10∧n≤bs.length∧(e=0∨e=5):=by
 rcases h with⟨u,h1,h2,rfl,rfl,rfl⟩|⟨_,rfl,rfl,rfl⟩
 ·have:=gK h1
  have h3:=h2.length_le
  unfold sz at*
  omega
 ·omega
def Inv (bs:List Int) (n acc:Nat):Prop:=
 acc<128 ^ n∧(∀x,enc x<+:bs↔∃y,(1≤y∨n=0)∧x=acc+y*128 ^ n∧enc y<+:bs.drop n)∧(∀y,(1≤y∨n=0)→sz (acc+y*128 ^ n)=n+sz y)∧∀y,(1≤y∨n=0)→enc (acc+y*128 ^ n)=bs.take n++enc y
theorem anC (bs:List Int):Inv bs 0 0:=by
 refine⟨by simp,fun x=>?_,fun y _=>by simp,fun y _=>by simp⟩
 simp
theorem aq3 {bs:List Int}{n acc:Nat}{c:Int}(h:Inv bs n acc)(hn:n<bs.length)(hc:bs.getD n 0=c)(h1:128≤c)(h2:c<256):Inv bs (n+1) (acc+(c % 128).toNat*128 ^ n):=by
 obtain⟨ha,hx,hs,he⟩:=h
 have hd:bs.drop n=c::bs.drop (n+1):=by
  rw[List.drop_eq_getElem_cons hn]
  simp[hn]at hc
  rw[hc]
 have hp:128 ^ (n+1)=128*128 ^ n:=by rw[Nat.pow_succ,Nat.mul_comm]
 have e0:(c-128).toNat=(c % 128).toNat:=by omega
 have hl:(c % 128).toNat≤127:=by omega
 have key:∀y':Nat,acc+((c % 128).toNat+128*y')*128 ^ n=acc+(c % 128).toNat*128 ^ n+y'*128 ^ (n+1):=by
  intro y'
  rw[hp,Nat.add_mul,Nat.mul_comm 128 y',Nat.mul_assoc,Nat.add_assoc]
 refine⟨?_,fun x=>?_,fun y hy=>?_,fun y hy=>?_⟩
 ·rw[hp]
  have:(c % 128).toNat*128 ^ n≤127*128 ^ n:=Nat.mul_le_mul_right _ hl
  omega
 ·rw[hx x]
  constructor
  ·rintro⟨y,hy,rfl,hpre⟩
   rw[hd,amQ h1 h2]at hpre
   obtain⟨y',g1,g2,g3⟩:=hpre
   refine⟨y',.inl g1,?_,g3⟩
   rw[g2,e0,key]
  ·rintro⟨y',hy,rfl,hpre⟩
   have g1:1≤y':=by omega
   refine⟨(c % 128).toNat+128*y',.inl (by omega),(key y').symm,?_⟩
   rw[hd,amQ h1 h2]
   exact⟨y',g1,by omega,hpre⟩
 ·have g1:1≤y:=by omega
  rw[←key,hs _ (.inl (by omega)),afK (by omega)]
  have:((c % 128).toNat+128*y) / 128=y:=by omega
  rw[this]
  omega
 ·have g1:1≤y:=by omega
  rw[←key,he _ (.inl (by omega)),qP (by omega)]
  have e1:((c % 128).toNat+128*y) / 128=y:=by omega
  have e2:((((c % 128).toNat+128*y) % 128+128:Nat):Int)=c:=by omega
  have e3:bs[n]=c:=by simpa[hn]using hc
  rw[e1,e2,List.take_succ_eq_append_getElem hn,e3]
  simp
theorem amY {bs:List Int}{n acc:Nat}(h:Inv bs n acc)(hn:bs.length≤n):∀u:Nat,u<18446744073709551616→¬enc u<+:bs:=by
 intro u _ hu
 obtain⟨y,_,_,hp⟩:=(h.2.1 u).1 hu
 rw[List.drop_eq_nil_of_le hn]at hp
 exact pre_nil y hp
theorem apX {bs:List Int}{acc:Nat}{c:Int}(h:Inv bs 9 acc)(hn:9<bs.length)(hc:bs.getD 9 0=c)(h1:1<c)(h2:c<256):∀u:Nat,u<18446744073709551616→¬enc u<+:bs:=by
 intro u hlt hu
 obtain⟨y,_,rfl,hp⟩:=(h.2.1 u).1 hu
 have hd:bs.drop 9=c::bs.drop 10:=by
  rw[List.drop_eq_getElem_cons hn]
  simp[hn]at hc
  rw[hc]
 rw[hd]at hp
 have hy:y≤1:=by
  have:(128:Nat) ^ 9=9223372036854775808:=by decide
  omega
 rw[mK (by omega),jI]at hp
 omega
theorem inv_zero {bs:List Int}{n acc:Nat}(h:Inv bs n acc)(hn:n<bs.length)(hc:bs.getD n 0=0)(h1:1≤n):∀u:Nat,u<18446744073709551616→¬enc u<+:bs:=by
 intro u _ hu
 obtain⟨y,hy,rfl,hp⟩:=(h.2.1 u).1 hu
 have hd:bs.drop n=0::bs.drop (n+1):=by
  rw[List.drop_eq_getElem_cons hn]
  simp[hn]at hc
  rw[hc]
 rw[hd,acS (by omega)]at hp
 omega
theorem adW {bs:List Int}{n acc:Nat}{c:Int}(h:Inv bs n acc)(hn:n<bs.length)(hc:bs.getD n 0=c)(h0:0≤c)(h1:c<128)(h2:1≤c∨n=0):
  enc (acc+(c % 128).toNat*128 ^ n)<+:bs∧sz (acc+(c % 128).toNat*128 ^ n)=n+1:=by
 have hd:bs.drop n=c::bs.drop (n+1):=by
  rw[List.drop_eq_getElem_cons hn]
  simp[hn]at hc
  rw[hc]
 have e:(c % 128).toNat=c.toNat:=by omega
 rw[e]
 refine⟨(h.2.1 _).2 ⟨c.toNat,by omega,rfl,?_⟩,?_⟩
 ·rw[hd,acS h1];omega
 ·rw[h.2.2.1 _ (by omega),iO (by omega)]
theorem aqg {bs:List Int}{n acc:Nat}{c:Int}(h:Inv bs n acc)(hn:n≤8)(_h0:0≤c):acc+(c % 128).toNat*128 ^ n<18446744073709551616:=by
 have hp:128 ^ n≤128 ^ 8:=Nat.pow_le_pow_right (by omega) hn
 have h8:(128:Nat) ^ 8=72057594037927936:=by decide
 have:(c % 128).toNat*128 ^ n≤127*128 ^ n:=Nat.mul_le_mul_right _ (by omega)
 have:=h.1
 omega
theorem anq {bs:List Int}{acc:Nat}{c:Int}(h:Inv bs 9 acc)(h0:0≤c)(h1:c≤1):acc+(c % 128).toNat*128 ^ 9<18446744073709551616:=by
 have h8:(128:Nat) ^ 9=9223372036854775808:=by decide
 have:=h.1
 omega
end Go.Proofs.YtpifdeoepppadaaGreatDoor.Vm
namespace Go.Proofs.YtpifdeoepppadaaGreatDoor.Om
open Vm
def ints (l:List UInt8):List Int:=l.map fun c=>(c.toNat:Int)
theorem jh (l:List UInt8):(ints l).length=l.length:=by simp[ints]
theorem abb:∀{a b:List UInt8},ints a=ints b→a=b
 |[],[],_=>rfl
 |[],_::_,h=>by simp[ints]at h
 |_::_,[],h=>by simp[ints]at h
 |x::a,y::b,h=>by
  simp only[ints,List.map_cons,List.cons.injEq]at h
  have h1:x.toNat=y.toNat:=by omega
  rw[UInt8.toNat_inj.1 h1,abb (a:=a) (b:=b) h.2]
def gQ (l:List Int):List UInt8:=l.map fun z=>UInt8.ofNat z.toNat
theorem yw {l:List Int}(h:∀z∈l,0≤z∧z<256):ints (gQ l)=l:=by
 simp only[gQ,ints,List.map_map]
 conv=>rhs;rw[←List.map_id l]
 apply List.map_congr_left
 intro z hz
 have:=h z hz
 simp
 omega
theorem jJ (l:List Int):(gQ l).length=l.length:=by simp[gQ]
def aJ (p:Bool) (k v:List UInt8):Int:=if 1≤k.length∧k.length≤16∧v.length≤32∧(p=true∨v=[])then 0 else 2
theorem iD {p:Bool}{k v:List UInt8}(h:1≤k.length∧k.length≤16∧v.length≤32∧(p=true∨v=[])):aJ p k v=0:=by unfold aJ;rw[if_pos h]
theorem iW {p:Bool}{k v:List UInt8}(h:¬(1≤k.length∧k.length≤16∧v.length≤32∧(p=true∨v=[]))):aJ p k v=2:=by unfold aJ;rw[if_neg h]
theorem fI {p:Bool}{k v:List UInt8}(h:aJ p k v=0):1≤k.length∧k.length≤16∧v.length≤32∧(p=true∨v=[]):=by
 unfold aJ at h
 split at h
 ·assumption
 ·simp at h
theorem zV (p:Bool)(k v:List UInt8):aJ p k v=0∨aJ p k v=2:=by unfold aJ;split<;>simp
def cnt (s:List UInt8):List Int:=enc s.length++ints s
def dw (p:Bool) (k v:List UInt8):List Int:=(if p then 1 else 0)::(cnt k++if p then cnt v else [])
theorem jV (s:List UInt8):(cnt s).length=sz s.length+s.length:=by simp[cnt,jh,sz]
theorem af0 {s:List UInt8}(h:s.length≤32):(cnt s).length≤33:=by
 rw[jV,iO (by omega)];omega
theorem q9 {p:Bool}{k v:List UInt8}(h:aJ p k v=0):(dw p k v).length≤51:=by
 have h:=fI h
 have h1:=jV k
 have h2:=jV v
 rw[iO (by omega)]at h1 h2
 unfold dw
 cases p<;>simp<;>omega
theorem rT {s t:List UInt8}{bs:List Int}(h:cnt s<+:bs)(k:cnt t<+:bs):s=t:=by
 have h1:enc s.length<+:bs:=(List.prefix_append _ _).trans h
 have k1:enc t.length<+:bs:=(List.prefix_append _ _).trans k
 have e:=bI bs _ _ h1 k1
 have hl:(cnt s).length=(cnt t).length:=by rw[jV,jV,e]
 have:cnt s=cnt t:=by
  rw[List.prefix_iff_eq_take]at h k
  rw[h,k,hl]
 unfold cnt at this
 rw[e]at this
 exact abb (List.append_cancel_left this)
def gH (bs:List Int) (most:Nat) (s:List UInt8) (n:Nat) (e:Int):Prop:=
 (e=0∧s.length≤most∧cnt s<+:bs∧n=(cnt s).length)∨(e=5∧s=[]∧n=0∧∀t:List UInt8,t.length≤most→¬cnt t<+:bs)
def rU (bs:List Int) (p:Bool) (k v:List UInt8) (n e:Int):Prop:=
 (e=0∧aJ p k v=0∧dw p k v<+:bs∧n=(dw p k v).length)∨(e=5∧p=false∧k=[]∧v=[]∧n=0∧∀p k v,aJ p k v=0→¬dw p k v<+:bs)
theorem aj6 {p q:Bool}{k v l u:List UInt8}{bs:List Int}(h:dw p k v<+:bs)(g:dw q l u<+:bs)(hp:aJ p k v=0)(hq:aJ q l u=0):p=q∧k=l∧v=u:=by
 cases bs with
 |nil=>simp[dw]at h
 |cons b bs=>
  unfold dw at h g
  rw[List.cons_prefix_cons]at h g
  have e:p=q:=by
   have:=h.1.trans g.1.symm
   clear h g hp hq
   cases p<;>cases q<;>simp_all
  subst e
  have hk:k=l:=rT ((List.prefix_append _ _).trans h.2) ((List.prefix_append _ _).trans g.2)
  subst hk
  refine⟨rfl,rfl,?_⟩
  cases p
  ·have h1:=(fI hp).2.2.2
   have h2:=(fI hq).2.2.2
   simp at h1 h2
   rw[h1,h2]
  ·obtain⟨r,hr⟩:=h.2
   obtain⟨r',hr'⟩:=g.2
   simp only[if_true]at hr hr'
   rw[List.append_assoc]at hr hr'
   have:=List.append_cancel_left (hr.trans hr'.symm)
   exact rT (bs:=cnt v++r) (List.prefix_append _ _) (by rw[this];exact List.prefix_append _ _)
theorem ary:rU [] false [] [] 0 5:=.inr ⟨rfl,rfl,rfl,rfl,rfl,fun p k v _ h=>by simp[dw]at h⟩
theorem amB {b:Int}{bs:List Int}(h0:b≠0)(h1:b≠1):rU (b::bs) false [] [] 0 5:=by
 refine .inr ⟨rfl,rfl,rfl,rfl,rfl,fun p k v _ h=>?_⟩
 unfold dw at h
 rw[List.cons_prefix_cons]at h
 have:=h.1
 cases p<;>simp at this<;>omega
theorem ag5 {b:Int}{bs:List Int}{s:List UInt8}{n:Nat}{e:Int}(h:gH bs 16 s n e)(he:e≠0∨s=[]):rU (b::bs) false [] [] 0 5:=by
 refine .inr ⟨rfl,rfl,rfl,rfl,rfl,fun p k v hc hp=>?_⟩
 have hk:=fI hc
 unfold dw at hp
 rw[List.cons_prefix_cons]at hp
 have hkp:cnt k<+:bs:=(List.prefix_append _ _).trans hp.2
 rcases h with⟨h1,_,h2,_⟩|⟨_,_,_,h3⟩
 ·rcases he with he|he
  ·exact he h1
  ·have:=rT h2 hkp
   rw[←this,he]at hk
   simp at hk
 ·exact h3 k hk.2.1 hkp
theorem aox {bs:List Int}{s:List UInt8}{n:Nat}(h:gH bs 16 s n 0)(hs:s≠[]):rU (0::bs) false s [] ((1+n:Nat):Int) 0:=by
 rcases h with⟨_,h1,h2,h3⟩|⟨h,_⟩
 ·have:0<s.length:=List.length_pos_iff.2 hs
  refine .inl ⟨rfl,iD ⟨by omega,h1,by simp,.inr rfl⟩,?_,?_⟩
  ·unfold dw;simpa using h2
  ·unfold dw;rw[h3];simp;omega
 ·simp at h
theorem ara {bs:List Int}{s t:List UInt8}{n m:Nat}(h:gH bs 16 s n 0)(hs:s≠[])(g:gH (bs.drop n) 32 t m 0):rU (1::bs) true s t ((1+n+m:Nat):Int) 0:=by
 rcases h with⟨_,h1,h2,h3⟩|⟨h,_⟩
 ·rcases g with⟨_,g1,g2,g3⟩|⟨g,_⟩
  ·have:0<s.length:=List.length_pos_iff.2 hs
   refine .inl ⟨rfl,iD ⟨by omega,h1,g1,.inl rfl⟩,?_,?_⟩
   ·unfold dw
    obtain⟨r,hr⟩:=h2
    rw[h3,←hr]at g2
    simp at g2
    rw[List.cons_prefix_cons]
    refine⟨rfl,?_⟩
    rw[←hr]
    simpa using List.prefix_append_right_inj (cnt s)|>.2 g2
   ·unfold dw;rw[h3,g3];simp;omega
  ·simp at g
 ·simp at h
theorem apA {bs:List Int}{s t:List UInt8}{n m:Nat}{e:Int}(h:gH bs 16 s n 0)(g:gH (bs.drop n) 32 t m e)(he:e≠0):rU (1::bs) false [] [] 0 5:=by
 refine .inr ⟨rfl,rfl,rfl,rfl,rfl,fun p k v hc hp=>?_⟩
 have hk:=fI hc
 unfold dw at hp
 rw[List.cons_prefix_cons]at hp
 cases p
 ·simp at hp
 ·have hkp:cnt k<+:bs:=(List.prefix_append _ _).trans hp.2
  rcases h with⟨_,_,h2,h3⟩|⟨h,_⟩
  ·have e1:=rT h2 hkp
   subst e1
   obtain⟨r,hr⟩:=h2
   rcases g with⟨g,_⟩|⟨_,_,_,g⟩
   ·exact he g
   ·refine g v hk.2.2.1 ?_
    rw[h3,←hr]
    have:=hp.2
    rw[←hr]at this
    simp only[if_true]at this
    simpa using(List.prefix_append_right_inj (cnt s)).1 this
  ·simp at h
def afV (bs:List Int) (p:Bool) (k v:List UInt8):List Int:=if aJ p k v=0 then bs++dw p k v else []
theorem aiQ {bs:List Int}{p:Bool}{k v:List UInt8}(h:aJ p k v=0):afV bs p k v=bs++dw p k v:=by unfold afV;rw[if_pos h]
theorem au9 {bs:List Int}{p:Bool}{k v:List UInt8}(h:aJ p k v=2):afV bs p k v=[]:=by unfold afV;rw[if_neg (by omega)]
end Go.Proofs.YtpifdeoepppadaaGreatDoor.Om
namespace Go.Proofs.YtpifdeoepppadaaGreatDoor.Bm
open Vm Om
structure Ov where
 p:Bool
 k:ByteArray
 v:ByteArray
def Ov.kl (o:Ov):List UInt8:=o.k.data.toList
def Ov.vl (o:Ov):List UInt8:=o.v.data.toList
def Ov.c (o:Ov):Int:=aJ o.p o.kl o.vl
def Ov.bit (o:Ov):Nat:=if o.p then 1 else 0
theorem qA {a b:ByteArray}(h:a.data.toList=b.data.toList):a=b:=by
 obtain⟨⟨a⟩⟩:=a
 obtain⟨⟨b⟩⟩:=b
 simp at h
 rw[h]
theorem Ov.eq {o q:Ov}(h1:o.p=q.p)(h2:o.kl=q.kl)(h3:o.vl=q.vl):o=q:=by
 obtain⟨p,k,v⟩:=o
 obtain⟨p',k',v'⟩:=q
 have e2:k=k':=qA h2
 have e3:v=v':=qA h3
 have e1:p=p':=h1
 rw[e1,e2,e3]
def com:List UInt8→List UInt8→Nat
 |x::a,y::b=>if x=y then com a b+1 else 0
 |_,_=>0
theorem zh:∀(a b:List UInt8),com a b≤a.length∧com a b≤b.length∧b.take (com a b)=a.take (com a b)
 |[],b=>by simp[com]
 |x::a,[]=>by simp[com]
 |x::a,y::b=>by
  have:=zh a b
  unfold com
  split
  ·rename_i h
   subst h
   simp[this.1,this.2.1,this.2.2]
  ·simp
theorem acD:∀(a b:List UInt8) (n:Nat),n≤a.length→n≤b.length→a.take n=b.take n→(n=a.length∨n=b.length∨a[n]?≠b[n]?)→com a b=n
 |[],b,n,h1,h2,h3,h4=>by simp at h1;subst h1;simp[com]
 |x::a,[],n,h1,h2,h3,h4=>by simp at h2;subst h2;simp[com]
 |x::a,y::b,0,h1,h2,h3,h4=>by
  simp at h4
  unfold com
  rw[if_neg h4]
 |x::a,y::b,n+1,h1,h2,h3,h4=>by
  simp at h1 h2 h3 h4
  obtain⟨rfl,h3⟩:=h3
  unfold com
  rw[if_pos rfl,acD a b n h1 h2 h3 h4]
def first:List Ov→Int
 |[]=>0
 |o::r=>if o.c=0 then first r else 2
theorem yt:∀(l:List Ov),first l=0∨first l=2
 |[]=>.inl rfl
 |o::r=>by unfold first;split;exact yt r;exact .inr rfl
theorem wQ:∀{l:List Ov},first l=0→∀o∈l,o.c=0
 |[],_,o,ho=>by simp at ho
 |q::r,h,o,ho=>by
  unfold first at h
  split at h
  ·rcases List.mem_cons.1 ho with rfl|ho
   ·assumption
   ·exact wQ h o ho
  ·simp at h
theorem pQ:∀{l:List Ov},(∀o∈l,o.c=0)→first l=0
 |[],_=>rfl
 |q::r,h=>by
  unfold first
  rw[if_pos (h q (by simp)),pQ fun o ho=>h o (by simp[ho])]
theorem ad5 {l:List Ov}{o:Ov}(ho:o∈l)(h:o.c≠0):first l=2:=by
 rcases yt l with h'|h'
 ·exact absurd (wQ h' o ho) h
 ·exact h'
def eF (l:List Ov):Int:=if l.length=0 then 2 else if 8<l.length then 3 else first l
theorem amK {l:List Ov}(h:8<l.length):eF l=3:=by unfold eF;rw[if_neg (by omega),if_pos h]
theorem apu {l:List Ov}(h:l.length≠0)(h':¬8<l.length):eF l=first l:=by unfold eF;rw[if_neg h,if_neg h']
theorem dM {l:List Ov}(h:eF l=0):1≤l.length∧l.length≤8∧∀o∈l,o.c=0:=by
 unfold eF at h
 split at h
 ·simp at h
 ·split at h
  ·simp at h
  ·exact⟨by omega,by omega,wQ h⟩
theorem amW (l:List Ov):eF l=0∨eF l=2∨eF l=3:=by
 unfold eF
 split
 ·simp
 ·split
  ·simp
  ·rcases yt l with h|h<;>simp[h]
def nk (kind sh:Nat) (rest:List UInt8):List Int:=enc kind++(enc sh++(enc rest.length++ints rest))
def gy (ah:List UInt8) (o:Ov):List Int:=nk o.bit (com ah o.kl) (o.kl.drop (com ah o.kl))++if o.p then cnt o.vl else []
def eP (ah:List UInt8):List Ov→List Int
 |[]=>[]
 |o::r=>gy ah o++eP o.kl r
def eQ (l:List Ov):List Int:=enc l.length++eP [] l
def ah0 (bs:List Int) (l:List Ov):List Int:=if eF l=0 then bs++eQ l else []
theorem ajc {bs:List Int}{l:List Ov}(h:eF l=0):ah0 bs l=bs++eQ l:=by unfold ah0;rw[if_pos h]
theorem atT {bs:List Int}{l:List Ov}(h:eF l≠0):ah0 bs l=[]:=by unfold ah0;rw[if_neg h]
theorem bB {A X bs:List Int}:A++X<+:bs↔A<+:bs∧X<+:bs.drop A.length:=by
 constructor
 ·intro h
  refine⟨(List.prefix_append _ _).trans h,?_⟩
  obtain⟨r,rfl⟩:=h
  rw[List.append_assoc,List.drop_left]
  exact List.prefix_append _ _
 ·rintro⟨⟨r,rfl⟩,h⟩
  rw[List.drop_left]at h
  exact(List.prefix_append_right_inj _).2 h
theorem aqB {s t:List UInt8}{bs:List Int}(h:ints s<+:bs)(k:ints t<+:bs)(hl:s.length=t.length):s=t:=by
 rw[List.prefix_iff_eq_take]at h k
 apply abb
 rw[h,k,jh,jh,hl]
theorem yY {a b c d:Nat}{r s:List UInt8}{bs:List Int}(h:nk a b r<+:bs)(g:nk c d s<+:bs):a=c∧b=d∧r=s:=by
 unfold nk at h g
 rw[bB,bB,bB]at h g
 obtain⟨h1,h2,h3,h4⟩:=h
 obtain⟨g1,g2,g3,g4⟩:=g
 obtain rfl:=bI _ _ _ h1 g1
 obtain rfl:=bI _ _ _ h2 g2
 have e:=bI _ _ _ h3 g3
 rw[e]at h4
 exact⟨rfl,rfl,aqB h4 g4 e⟩
def Ov.shape (o:Ov):Prop:=o.p=true∨o.vl=[]
theorem Ov.ari {o:Ov}(h:o.c=0):o.shape:=(fI h).2.2.2
theorem agT (ah:List UInt8)(k:List UInt8):ah.take (com ah k)++k.drop (com ah k)=k:=by
 rw[←(zh ah k).2.2,List.take_append_drop]
theorem axz {o q:Ov}(h:o.bit=q.bit):o.p=q.p:=by
 unfold Ov.bit at h
 cases h1:o.p<;>cases h2:q.p<;>simp_all
theorem alY {ah:List UInt8}{o q:Ov}{bs:List Int}(h:gy ah o<+:bs)(g:gy ah q<+:bs)(ho:o.shape)(hq:q.shape):o=q:=by
 unfold gy at h g
 rw[bB]at h g
 obtain⟨h1,h2⟩:=h
 obtain⟨g1,g2⟩:=g
 obtain⟨e1,e2,e3⟩:=yY h1 g1
 have ek:o.kl=q.kl:=by
  rw[←agT ah o.kl,←agT ah q.kl,e2]
  rw[e2]at e3
  rw[e3]
 have ep:=axz e1
 refine Ov.eq ep ek ?_
 have el:o.kl.length=q.kl.length:=by rw[ek]
 rw[e1,ek]at h2
 cases hp:o.p
 ·have:=ho
  have:=hq
  unfold Ov.shape at*
  rw[←ep]at*
  simp_all
 ·rw[hp]at h2
  rw[←ep,hp]at g2
  simp only[if_true]at h2 g2
  exact rT h2 g2
theorem yO:∀(ah:List UInt8) (l m:List Ov) (bs:List Int),l.length=m.length→(∀o∈l,o.shape)→(∀o∈m,o.shape)→eP ah l<+:bs→eP ah m<+:bs→l=m
 |_,[],[],_,_,_,_,_,_=>rfl
 |_,[],_::_,_,h,_,_,_,_=>by simp at h
 |_,_::_,[],_,h,_,_,_,_=>by simp at h
 |ah,o::l,q::m,bs,hl,h1,h2,h,g=>by
  unfold eP at h g
  rw[bB]at h g
  obtain rfl:=alY h.1 g.1 (h1 o (by simp)) (h2 q (by simp))
  rw[yO o.kl l m _ (by simpa using hl) (fun x hx=>h1 x (by simp[hx])) (fun x hx=>h2 x (by simp[hx])) h.2 g.2]
theorem ze {l m:List Ov}{bs:List Int}(h:eQ l<+:bs)(g:eQ m<+:bs)(hl:∀o∈l,o.shape)(hm:∀o∈m,o.shape):l=m:=by
 unfold eQ at h g
 rw[bB]at h g
 have e:=bI _ _ _ h.1 g.1
 rw[e]at h
 exact yO [] l m _ e hl hm h.2 g.2
def aj (ah:List UInt8):List Ov→List UInt8
 |[]=>ah
 |o::r=>aj o.kl r
theorem nX:∀(ah:List UInt8) (l:List Ov) (o:Ov),aj ah (l++[o])=o.kl
 |_,[],_=>rfl
 |_,q::l,o=>nX q.kl l o
theorem sP:∀(ah:List UInt8) (l:List Ov) (o:Ov),eP ah (l++[o])=eP ah l++gy (aj ah l) o
 |_,[],_=>by simp[eP,aj]
 |ah,q::l,o=>by
  show gy ah q++eP q.kl (l++[o])=gy ah q++eP q.kl l++gy (aj q.kl l) o
  rw[sP q.kl l o,List.append_assoc]
theorem agy:∀(ah:List UInt8) (l m:List Ov),eP ah (l++m)=eP ah l++eP (aj ah l) m
 |_,[],_=>rfl
 |ah,q::l,m=>by
  show gy ah q++eP q.kl (l++m)=gy ah q++eP q.kl l++eP (aj q.kl l) m
  rw[agy q.kl l m,List.append_assoc]
def ahz (bs:List Int) (l:List Ov) (n e:Int):Prop:=
 (e=0∧eF l=0∧eQ l<+:bs∧n=(eQ l).length)∨(e=5∧l=[]∧n=0∧∀m,eF m=0→¬eQ m<+:bs)
theorem shapes {l:List Ov}(h:eF l=0):∀o∈l,o.shape:=fun o ho=>Ov.ari ((dM h).2.2 o ho)
def SS (bs:List Int) (most a:Nat) (bad:Bool) (u a':Nat) (bad':Bool):Prop:=
 (bad=true∧bad'=true∧u=0∧a'=a)∨(bad=false∧bad'=true∧u=0∧a'=a∧∀x:Nat,x≤most→¬enc x<+:bs.drop a)∨(bad=false∧bad'=false∧u≤most∧enc u<+:bs.drop a∧a'=a+sz u)
def BS (bs:List Int) (n a:Nat) (bad:Bool) (zs:List Int) (a':Nat) (bad':Bool):Prop:=
 ((bad=true∨bs.length-a<n)∧bad'=true∧zs=[]∧a'=a)∨(bad=false∧n≤bs.length-a∧bad'=false∧zs=(bs.drop a).take n∧a'=a+n)
theorem vL {bs:List Int}{most a u a':Nat}{bad bad':Bool}(h:SS bs most a bad u a' bad'):u≤most:=by
 rcases h with⟨_,_,h,_⟩|⟨_,_,h,_⟩|⟨_,_,h,_⟩<;>omega
theorem afn {bs zs:List Int}{n a a':Nat}{bad bad':Bool}(h:BS bs n a bad zs a' bad'):zs.length≤n:=by
 rcases h with⟨_,_,h,_⟩|⟨_,_,_,h,_⟩
 ·simp[h]
 ·rw[h,List.length_take];omega
theorem uQ {bs:List Int}{most a u a':Nat}{bad bad':Bool}(h:SS bs most a bad u a' bad')(hb:bad=true):bad'=true:=by
 rcases h with⟨_,h,_⟩|⟨_,h,_⟩|⟨h,_⟩
 ·exact h
 ·exact h
 ·rw[hb]at h;simp at h
theorem uU {bs zs:List Int}{n a a':Nat}{bad bad':Bool}(h:BS bs n a bad zs a' bad')(hb:bad=true):bad'=true:=by
 rcases h with⟨_,h,_⟩|⟨h,_⟩
 ·exact h
 ·rw[hb]at h;simp at h
def No (bs:List Int) (a:Nat) (ah:List UInt8):Prop:=∀q:Ov,q.c=0→¬gy ah q<+:bs.drop a
theorem qj {ah:List UInt8}{q:Ov}{bs:List Int}{a:Nat}(h:gy ah q<+:bs.drop a):
  enc q.bit<+:bs.drop a∧enc (com ah q.kl)<+:bs.drop (a+sz q.bit)∧enc (q.kl.length-com ah q.kl)<+:bs.drop (a+sz q.bit+sz (com ah q.kl))∧
  ints (q.kl.drop (com ah q.kl))<+:bs.drop (a+sz q.bit+sz (com ah q.kl)+sz (q.kl.length-com ah q.kl)):=by
 unfold gy nk at h
 rw[bB,bB,bB,bB]at h
 obtain⟨⟨h1,h2,h3,h4⟩,_⟩:=h
 simp only[List.drop_drop,List.length_drop]at h2 h3 h4
 exact⟨h1,h2,h3,h4⟩
def PS (bs:List Int) (a:Nat) (bad:Bool) (ah:List UInt8) (kind sh n:Nat) (zs:List Int) (a4:Nat) (jQ:Bool):Prop:=
 (jQ=false∧bad=false∧kind≤1∧sh≤ah.length∧zs.length=n∧nk kind sh (gQ zs)<+:bs.drop a∧a4=a+(nk kind sh (gQ zs)).length)∨(jQ=true∧(bad=false→No bs a ah))
theorem amj (q:Ov):q.bit≤1:=by unfold Ov.bit;split<;>omega
theorem azG {bs:List Int}(hb:∀z∈bs,0≤z∧z<256){a a1 a2 a3 a4 kind sh n M:Nat}{bad jl jM rG jQ:Bool}{ah:List UInt8}{zs:List Int}
  (h1:SS bs 1 a bad kind a1 jl) (h2:SS bs ah.length a1 jl sh a2 jM) (h3:SS bs M a2 jM n a3 rG) (h4:BS bs n a3 rG zs a4 jQ) (hM:M=16∨M=16-sh):PS bs a bad ah kind sh n zs a4 jQ:=by
 rcases h1 with⟨b1,c1,_⟩|⟨b1,c1,_,_,h1⟩|⟨b1,c1,u1,p1,e1⟩
 ·exact .inr ⟨uU h4 (uQ h3 (uQ h2 c1)),fun h=>by rw[b1]at h;simp at h⟩
 ·refine .inr ⟨uU h4 (uQ h3 (uQ h2 c1)),fun _ q _ hp=>h1 q.bit (amj q) (qj hp).1⟩
 ·rcases h2 with⟨b2,c2,_⟩|⟨b2,c2,_,_,h2⟩|⟨b2,c2,u2,p2,e2⟩
  ·rw[c1]at b2;simp at b2
  ·refine .inr ⟨uU h4 (uQ h3 c2),fun _ q _ hp=>?_⟩
   obtain⟨g1,g2,_⟩:=qj hp
   have:=bI _ _ _ p1 g1
   rw[←this,←e1]at g2
   exact h2 _ (zh ah q.kl).1 g2
  ·rcases h3 with⟨b3,c3,_⟩|⟨b3,c3,_,_,h3⟩|⟨b3,c3,u3,p3,e3⟩
   ·rw[c2]at b3;simp at b3
   ·refine .inr ⟨uU h4 c3,fun _ q hq hp=>?_⟩
    obtain⟨g1,g2,g3,_⟩:=qj hp
    have w1:=bI _ _ _ p1 g1
    rw[←w1,←e1]at g2 g3
    have w2:=bI _ _ _ p2 g2
    rw[←w2,←e2]at g3
    have:=(fI hq).2.1
    exact h3 _ (by omega) g3
   ·rcases h4 with⟨b4,c4,_⟩|⟨b4,c4,d4,e4,f4⟩
    ·refine .inr ⟨c4,fun _ q hq hp=>?_⟩
     obtain⟨g1,g2,g3,g4⟩:=qj hp
     have w1:=bI _ _ _ p1 g1
     rw[←w1,←e1]at g2 g3 g4
     have w2:=bI _ _ _ p2 g2
     rw[←w2,←e2]at g3 g4
     have w3:=bI _ _ _ p3 g3
     rw[←w3,←e3]at g4
     have hl:=g4.length_le
     rw[jh,List.length_drop,List.length_drop]at hl
     rcases b4 with b4|b4
     ·rw[c3]at b4;simp at b4
     ·omega
    ·have hl:zs.length=n:=by rw[e4,List.length_take,List.length_drop];omega
     have hbz:ints (gQ zs)=zs:=yw fun z hz=>hb z (by rw[e4]at hz;exact List.mem_of_mem_drop (List.mem_of_mem_take hz))
     refine .inl ⟨d4,b1,u1,u2,hl,?_,?_⟩
     ·unfold nk
      rw[bB,bB,bB,hbz,jJ,hl]
      simp only[List.drop_drop]
      refine⟨p1,?_,?_,?_⟩
      ·rw[e1]at p2;exact p2
      ·rw[e2,e1]at p3;exact p3
      ·rw[e3,e2,e1]at e4
       rw[e4]
       exact List.take_prefix _ _
     ·unfold nk
      simp only[List.length_append,jh,jJ,hl]
      unfold sz at e1 e2 e3
      omega
def OS (bs:List Int) (a:Nat) (bad:Bool) (ah:List UInt8) (o:Ov) (a':Nat) (bad':Bool):Prop:=
 (bad=false∧bad'=false∧gy ah o<+:bs.drop a∧a'=a+(gy ah o).length∧o.shape)∨(bad'=true∧(bad=false→No bs a ah))
theorem adn {sh:Nat}{ah rest:List UInt8}(h:sh≤ah.length):(ah.take sh++rest).drop sh=rest:=by
 have:(ah.take sh).length=sh:=by rw[List.length_take];omega
 rw[List.drop_append_of_le_length (by omega),List.drop_of_length_le (by omega),List.nil_append]
theorem ayW {bs:List Int}{a a4 kind sh n:Nat}{bad:Bool}{ah:List UInt8}{zs:List Int}(h:PS bs a bad ah kind sh n zs a4 false)(hc:com ah (ah.take sh++gQ zs)≠sh):No bs a ah:=by
 rcases h with⟨_,_,_,_,_,h,_⟩|⟨h,_⟩
 ·intro q hq hp
  unfold gy at hp
  rw[bB]at hp
  obtain⟨_,e2,e3⟩:=yY h hp.1
  apply hc
  rw[e3,e2,agT]
 ·simp at h
theorem ayJ {bs:List Int}{a a4 sh n:Nat}{bad:Bool}{ah:List UInt8}{zs:List Int}{o:Ov}(h:PS bs a bad ah 0 sh n zs a4 false)(hp:o.p=false)(hk:o.kl=ah.take sh++gQ zs)(hv:o.vl=[])(hc:com ah o.kl=sh):OS bs a bad ah o a4 false:=by
 rcases h with⟨_,h1,_,h2,h3,h4,h5⟩|⟨h,_⟩
 ·have e:gy ah o=nk 0 sh (gQ zs):=by
   unfold gy Ov.bit
   rw[hp,hc,hk,adn h2]
   simp
  exact .inl ⟨h1,rfl,by rw[e];exact h4,by rw[e];exact h5,.inr hv⟩
 ·simp at h
theorem axJ {bs:List Int}(hb:∀z∈bs,0≤z∧z<256){a a4 a5 a6 sh n m:Nat}{bad wu agS:Bool}{ah:List UInt8}{zs ys:List Int}{o:Ov}(h:PS bs a bad ah 1 sh n zs a4 false)(hp:o.p=true)(hk:o.kl=ah.take sh++gQ zs)(hv:o.vl=gQ ys)(hc:com ah o.kl=sh)
  (g1:SS bs 32 a4 false m a5 wu) (g2:BS bs m a5 wu ys a6 agS):OS bs a bad ah o a6 agS:=by
 rcases h with⟨_,h1,_,h2,h3,h4,h5⟩|⟨h,_⟩
 ·have e:gy ah o=nk 1 sh (gQ zs)++cnt (gQ ys):=by
   unfold gy Ov.bit
   rw[hp,hc,hk,adn h2,hv]
   simp
  have none:(∀t:List UInt8,t.length≤32→¬cnt t<+:bs.drop a4)→No bs a ah:=by
   intro hn q hq hpq
   have hpq0:=hpq
   unfold gy at hpq
   rw[bB]at hpq
   obtain⟨e1,e2,e3⟩:=yY h4 hpq.1
   have hpp:q.p=true:=by
    unfold Ov.bit at e1
    cases hh:q.p
    ·rw[hh]at e1;simp at e1
    ·rfl
   have hq2:=hpq.2
   rw[hpp,List.drop_drop,←e1,←e3,←e2]at hq2
   rw[if_pos rfl,←h5]at hq2
   exact hn q.vl (fI hq).2.2.1 hq2
  rcases g1 with⟨b1,_⟩|⟨b1,c1,_,_,g1⟩|⟨b1,c1,u1,p1,e1⟩
  ·simp at b1
  ·refine .inr ⟨uU g2 c1,fun _=>none fun t ht hp=>?_⟩
   unfold cnt at hp
   rw[bB]at hp
   exact g1 _ ht hp.1
  ·rcases g2 with⟨b2,c2,_⟩|⟨b2,c2,d2,e2,f2⟩
   ·refine .inr ⟨c2,fun _=>none fun t ht hp=>?_⟩
    unfold cnt at hp
    rw[bB,List.drop_drop]at hp
    have w:=bI _ _ _ p1 hp.1
    have hl:=hp.2.length_le
    rw[jh,List.length_drop]at hl
    rcases b2 with b2|b2
    ·rw[c1]at b2;simp at b2
    ·unfold sz at e1
     rw[w]at e1 b2
     omega
   ·have hl:ys.length=m:=by rw[e2,List.length_take,List.length_drop];omega
    have hby:ints (gQ ys)=ys:=yw fun z hz=>hb z (by rw[e2]at hz;exact List.mem_of_mem_drop (List.mem_of_mem_take hz))
    refine .inl ⟨h1,d2,?_,?_,.inl hp⟩
    ·rw[e,bB,List.drop_drop,←h5]
     refine⟨h4,?_⟩
     unfold cnt
     rw[bB,List.drop_drop,jJ,hl,hby]
     refine⟨p1,?_⟩
     unfold sz at e1
     rw[←e1,e2]
     exact List.take_prefix _ _
    ·rw[e,List.length_append,←Nat.add_assoc,←h5,f2,e1,jV,jJ,hl]
     omega
 ·simp at h
def KS (bs:List Int) (a1:Nat) (jl:Bool) (ah key:List UInt8) (a':Nat) (bad':Bool):Prop:=
 ∃sh n zs a2 jM a3 rG jQ,SS bs ah.length a1 jl sh a2 jM∧SS bs (16-sh) a2 jM n a3 rG∧BS bs n a3 rG zs a' jQ∧key=ah.take sh++gQ zs∧bad'=(jQ||decide (com ah key≠sh))
theorem asy {bs:List Int}(hb:∀z∈bs,0≤z∧z<256){a a1 a' kind:Nat}{bad jl bad':Bool}{ah key:List UInt8}(h1:SS bs 1 a bad kind a1 jl)(h:KS bs a1 jl ah key a' bad'):
  (bad'=true∧(bad=false→No bs a ah))∨(bad'=false∧∃sh n zs,PS bs a bad ah kind sh n zs a' false∧key=ah.take sh++gQ zs∧com ah key=sh):=by
 obtain⟨sh,n,zs,a2,jM,a3,rG,jQ,h2,h3,h4,hk,e⟩:=h
 have hp:=azG hb h1 h2 h3 h4 (.inr rfl)
 cases jQ
 ·by_cases hc:com ah key=sh
  ·exact .inr ⟨by rw[e];simpa using hc,sh,n,zs,hp,hk,hc⟩
  ·refine .inl ⟨by rw[e];simpa using hc,fun _=>ayW hp (by rw[←hk];exact hc)⟩
 ·rcases hp with⟨h,_⟩|⟨_,h⟩
  ·simp at h
  ·exact .inl ⟨by rw[e];rfl,h⟩
theorem azt {bs:List Int}(hb:∀z∈bs,0≤z∧z<256){a a1 a':Nat}{bad jl bad':Bool}{ah key:List UInt8}{o:Ov}(h1:SS bs 1 a bad 0 a1 jl)(h:KS bs a1 jl ah key a' bad')(hp:o.p=false)(hk:o.kl=key)(hv:o.vl=[]):OS bs a bad ah o a' bad':=by
 rcases asy hb h1 h with⟨g1,g2⟩|⟨g1,sh,n,zs,g2,g3,g4⟩
 ·exact .inr ⟨g1,g2⟩
 ·rw[g1]
  exact ayJ g2 hp (hk.trans g3) hv (by rw[hk];exact g4)
theorem ax0 {bs:List Int}(hb:∀z∈bs,0≤z∧z<256){a a1 a4 a5 a6 m:Nat}{bad jl jQ wu agS:Bool}{ah key:List UInt8}{ys:List Int}{o:Ov}(h1:SS bs 1 a bad 1 a1 jl)(h:KS bs a1 jl ah key a4 jQ)(hp:o.p=true)(hk:o.kl=key)(hv:o.vl=gQ ys)
  (g1:SS bs 32 a4 jQ m a5 wu) (g2:BS bs m a5 wu ys a6 agS):OS bs a bad ah o a6 agS:=by
 rcases asy hb h1 h with⟨k1,k2⟩|⟨k1,sh,n,zs,k2,k3,k4⟩
 ·exact .inr ⟨uU g2 (uQ g1 k1),k2⟩
 ·rw[k1]at g1
  exact axJ hb k2 hp (hk.trans k3) hv (by rw[hk];exact k4) g1 g2
theorem aog {bs:List Int}{a1 a':Nat}{jl bad':Bool}{ah key:List UInt8}(h:KS bs a1 jl ah key a' bad')(hah:ah.length≤16):key.length≤16:=by
 obtain⟨sh,n,zs,a2,jM,a3,rG,jQ,h2,h3,h4,hk,_⟩:=h
 have e1:=vL h2
 have e2:=vL h3
 have e3:=afn h4
 rw[hk,List.length_append,jJ,List.length_take]
 omega
def NB (bs:List Int):Prop:=∀m:List Ov,eF m=0→¬eQ m<+:bs
def LS (bs:List Int) (c:Nat) (l:List Ov) (a:Nat) (bad:Bool) (ah:List UInt8):Prop:=
 (bad=false∧c≤8∧enc c<+:bs∧eP [] l<+:bs.drop (sz c)∧a=sz c+(eP [] l).length∧ah=aj [] l∧∀o∈l,o.shape)∨(bad=true∧NB bs)
theorem api {bs:List Int}{c a:Nat}{bad:Bool}(h:SS bs 8 0 false c a bad):LS bs c [] a bad []:=by
 rcases h with⟨h,_⟩|⟨_,h1,_,_,h⟩|⟨_,h1,h2,h3,h4⟩
 ·simp at h
 ·refine .inr ⟨h1,fun m hm hp=>?_⟩
  unfold eQ at hp
  rw[bB]at hp
  exact h _ (dM hm).2.1 (by simpa using hp.1)
 ·refine .inl ⟨h1,h2,by simpa using h3,by simp[eP],by simp[eP,h4],rfl,by simp⟩
theorem auj {bs:List Int}{c a a':Nat}{bad bad':Bool}{l:List Ov}{ah:List UInt8}{o:Ov}(h:LS bs c l a bad ah)(hl:l.length<c)(g:OS bs a bad ah o a' bad'):LS bs c (l++[o]) a' bad' o.kl:=by
 rcases h with⟨rfl,h1,h2,h3,h4,h5,h6⟩|⟨rfl,h⟩
 ·rcases g with⟨_,g1,g2,g3,g4⟩|⟨g1,g2⟩
  ·refine .inl ⟨g1,h1,h2,?_,?_,(nX _ _ _).symm,?_⟩
   ·rw[sP,bB,List.drop_drop,←h4,←h5]
    exact⟨h3,g2⟩
   ·rw[sP,List.length_append,←h5,g3,h4,Nat.add_assoc]
   ·intro x hx
    rcases List.mem_append.1 hx with hx|hx
    ·exact h6 x hx
    ·rw[List.mem_singleton.1 hx];exact g4
  ·refine .inr ⟨g1,fun m hm hp=>?_⟩
   unfold eQ at hp
   rw[bB]at hp
   have e:=bI _ _ _ h2 hp.1
   have hp2:=hp.2
   have hlm:l.length<m.length:=by omega
   have hsplit:m=m.take l.length++m[l.length]::m.drop (l.length+1):=by
    rw[List.getElem_cons_drop,List.take_append_drop]
   rw[hsplit,agy,bB]at hp2
   have hmem:∀x∈m.take l.length,x.shape:=fun x hx=>shapes hm x (List.mem_of_mem_take hx)
   have hsz:(enc m.length).length=sz c:=by rw[←e];rfl
   rw[←hsplit,hsz]at hp2
   have e2:=yO [] l (m.take l.length) _ (by rw[List.length_take];omega) h6 hmem h3 hp2.1
   have hp3:=hp2.2
   rw[←e2,List.drop_drop,←h4,←h5]at hp3
   show False
   unfold eP at hp3
   rw[bB]at hp3
   exact g2 rfl _ ((dM hm).2.2 _ (List.getElem_mem _)) hp3.1
 ·rcases g with⟨g,_⟩|⟨g1,_⟩
  ·simp at g
  ·exact .inr ⟨g1,h⟩
theorem avA {bs:List Int}{c a:Nat}{l:List Ov}{ah:List UInt8}(h:LS bs c l a false ah)(hl:l.length=c)(hc:eF l=0):ahz bs l a 0:=by
 rcases h with⟨_,h1,h2,h3,h4,_⟩|⟨h,_⟩
 ·have e:eQ l=enc c++eP [] l:=by unfold eQ;rw[hl]
  refine .inl ⟨rfl,hc,?_,?_⟩
  ·rw[e,bB];exact⟨h2,h3⟩
  ·rw[e,List.length_append,h4];rfl
 ·simp at h
theorem aoa {bs:List Int}{c a:Nat}{l:List Ov}{ah:List UInt8}{bad:Bool}(h:LS bs c l a bad ah)(hl:bad=false→l.length=c)(hc:bad=true∨eF l≠0):ahz bs [] 0 5:=by
 refine .inr ⟨rfl,rfl,rfl,?_⟩
 rcases h with⟨hb,h1,h2,h3,h4,_,h6⟩|⟨_,h⟩
 ·rcases hc with hc|hc
  ·rw[hc]at hb;simp at hb
  ·intro m hm hp
   have e:eQ l<+:bs:=by
    unfold eQ
    rw[hl hb,bB]
    exact⟨h2,h3⟩
   have:=ze e hp h6 (shapes hm)
   rw[this]at hc
   exact hc hm
 ·exact h
def sum:List Ov→Nat
 |[]=>0
 |o::r=>(dw o.p o.kl o.vl).length+sum r
theorem atQ (ah:List UInt8){o:Ov}(h:o.c=0):(gy ah o).length≤(dw o.p o.kl o.vl).length+1:=by
 have hh:=fI h
 have hc:=zh ah o.kl
 have hb:=amj o
 unfold gy nk dw
 have e1:(enc o.bit).length=1:=by have:=iO (x:=o.bit) (by omega);exact this
 have e2:(enc (com ah o.kl)).length=1:=by have:=iO (x:=com ah o.kl) (by omega);exact this
 have e3:(enc (o.kl.length-com ah o.kl)).length=1:=by have:=iO (x:=o.kl.length-com ah o.kl) (by omega);exact this
 have e4:=jV o.kl
 rw[iO (by omega)]at e4
 simp only[List.length_append,List.length_cons,List.length_drop,e1,e2,e3,e4,jh]
 split<;>simp<;>omega
theorem acZ:∀(ah:List UInt8) (l:List Ov),(∀o∈l,o.c=0)→(eP ah l).length≤sum l+l.length
 |_,[],_=>by simp[eP,sum]
 |ah,o::l,h=>by
  have h1:=atQ ah (h o (by simp))
  have h2:=acZ o.kl l fun x hx=>h x (by simp[hx])
  simp only[eP,sum,List.length_append,List.length_cons]
  omega
theorem at0 {l:List Ov}(h:eF l=0):(eQ l).length≤9+sum l:=by
 obtain⟨h1,h2,h3⟩:=dM h
 have:=acZ [] l h3
 have e:(enc l.length).length=1:=by have:=iO (x:=l.length) (by omega);exact this
 unfold eQ
 rw[List.length_append,e]
 omega
theorem aik:∀{l:List Ov},(∀o∈l,o.c=0)→sum l≤51*l.length
 |[],_=>by simp[sum]
 |o::l,h=>by
  have h1:=q9 (h o (by simp))
  have h2:=aik (l:=l) fun x hx=>h x (by simp[hx])
  simp only[sum,List.length_cons]
  unfold Ov.kl Ov.vl at*
  omega
theorem akI {l:List Ov}(h:eF l=0):(eQ l).length≤420:=by
 have:=at0 h
 obtain⟨h1,h2,h3⟩:=dM h
 have:=aik h3
 omega
def eqO (o q:Ov):Bool:=(o.p==q.p)&&(decide (o.kl=q.kl)&&decide (o.vl=q.vl))
theorem adI {o q:Ov}:eqO o q=true↔o=q:=by
 unfold eqO
 constructor
 ·intro h
  simp at h
  exact Ov.eq h.1 h.2.1 h.2.2
 ·rintro rfl
  simp
def sameL:List Ov→List Ov→Bool
 |[],[]=>true
 |o::l,q::m=>eqO o q&&sameL l m
 |_,_=>false
theorem mi:∀{l m:List Ov},sameL l m=true↔l=m
 |[],[]=>by simp[sameL]
 |[],_::_=>by simp[sameL]
 |_::_,[]=>by simp[sameL]
 |o::l,q::m=>by simp[sameL,adI,mi (l:=l) (m:=m)]
theorem ahP {l m:List Ov}(h:l≠m):sameL l m=false:=by
 cases hs:sameL l m
 ·rfl
 ·exact absurd (mi.1 hs) h
end Go.Proofs.YtpifdeoepppadaaGreatDoor.Bm
namespace Go.Proofs.YtpifdeoepppadaaGreatDoor.Cm
open Vm Om Bm
set_option linter.unusedVariables false
structure Cv where
 e:Int
 n:Int
 l:List Ov
def aJ (e n:Int) (l:List Ov):Int:=if 1≤e∧e≤1048576∧1≤n∧n≤1048576 then eF l else 2
theorem agJ {e n:Int}{l:List Ov}(h:1≤e∧e≤1048576∧1≤n∧n≤1048576):aJ e n l=eF l:=by unfold aJ;rw[if_pos h]
theorem adp {e n:Int}{l:List Ov}(h:¬(1≤e∧e≤1048576∧1≤n∧n≤1048576)):aJ e n l=2:=by unfold aJ;rw[if_neg h]
theorem bu {e n:Int}{l:List Ov}(h:aJ e n l=0):1≤e∧e≤1048576∧1≤n∧n≤1048576∧eF l=0:=by
 by_cases hb:1≤e∧e≤1048576∧1≤n∧n≤1048576
 ·rw[agJ hb]at h
  exact⟨hb.1,hb.2.1,hb.2.2.1,hb.2.2.2,h⟩
 ·rw[adp hb]at h
  simp at h
theorem tF (e n:Int)(l:List Ov):aJ e n l=0∨aJ e n l=2∨aJ e n l=3:=by
 unfold aJ
 split
 ·exact amW l
 ·exact .inr (.inl rfl)
def iL (e n:Int) (l:List Ov):List Int:=enc e.toNat++(enc n.toNat++eQ l)
def out (e n:Int) (l:List Ov):List Int:=if aJ e n l=0 then iL e n l else []
theorem lC {e n:Int}{l:List Ov}(h:aJ e n l=0):out e n l=iL e n l:=by unfold out;rw[if_pos h]
theorem rP {e n:Int}{l:List Ov}(h:aJ e n l≠0):out e n l=[]:=by unfold out;rw[if_neg h]
theorem iQ {x:Int}(h:x≤1048576):(enc x.toNat).length≤3:=tH 2 x.toNat (by omega)
theorem abG {e n:Int}{l:List Ov}(h:aJ e n l=0):(iL e n l).length≤430:=by
 obtain⟨_,h1,_,h2,h3⟩:=bu h
 have:=iQ h1
 have:=iQ h2
 have:=akI h3
 unfold iL
 simp only[List.length_append]
 omega
theorem yB (e n:Int)(l:List Ov):(out e n l).length≤430:=by
 by_cases h:aJ e n l=0
 ·rw[lC h];exact abG h
 ·rw[rP h];simp
theorem aaZ {e n e' n':Int}{l l':List Ov}(h:aJ e n l=0)(h':aJ e' n' l'=0)(he:iL e n l=iL e' n' l'):e=e'∧n=n'∧l=l':=by
 obtain⟨h1,h2,h3,h4,h5⟩:=bu h
 obtain⟨g1,g2,g3,g4,g5⟩:=bu h'
 unfold iL at he
 have p1:=bI (enc e.toNat++(enc n.toNat++eQ l)) e.toNat e'.toNat (List.prefix_append _ _) (by rw[he];exact List.prefix_append _ _)
 have e1:e=e':=by omega
 subst e1
 have he2:=List.append_cancel_left he
 have p2:=bI (enc n.toNat++eQ l) n.toNat n'.toNat (List.prefix_append _ _) (by rw[he2];exact List.prefix_append _ _)
 have e2:n=n':=by omega
 subst e2
 have he3:=List.append_cancel_left he2
 exact⟨rfl,rfl,ze (List.prefix_refl _) (by rw[he3];exact List.prefix_refl _) (shapes h5) (shapes g5)⟩
def gH (bs:List Int) (e n:Int) (l:List Ov) (g:Int):Prop:=
 (g=0∧aJ e n l=0∧iL e n l=bs)∨(g=5∧e=0∧n=0∧l=[]∧∀e' n' l',aJ e' n' l'=0→iL e' n' l'≠bs)
theorem aor {bs:List Int}{e n e' n' g g':Int}{l l':List Ov}(h:gH bs e n l g)(k:gH bs e' n' l' g'):e=e'∧n=n'∧l=l'∧g=g':=by
 rcases h with⟨rfl,h1,h2⟩|⟨rfl,rfl,rfl,rfl,h⟩<;>rcases k with⟨rfl,k1,k2⟩|⟨rfl,rfl,rfl,rfl,k⟩
 ·obtain⟨rfl,rfl,rfl⟩:=aaZ h1 k1 (h2.trans k2.symm)
  exact⟨rfl,rfl,rfl,rfl⟩
 ·exact absurd h2 (k _ _ _ h1)
 ·exact absurd k2 (h _ _ _ k1)
 ·exact⟨rfl,rfl,rfl,rfl⟩
theorem aeI {bs:List Int}{e n e' n' g':Int}{l l':List Ov}(hc:aJ e n l=0)(h:iL e n l=bs)(k:gH bs e' n' l' g'):e'=e∧n'=n∧l'=l∧g'=0:=by
 obtain⟨rfl,rfl,rfl,rfl⟩:=aor (.inl ⟨rfl,hc,h⟩:gH bs e n l 0) k
 exact⟨rfl,rfl,rfl,rfl⟩
theorem awZ {bs:List Int}{e n g:Int}{l:List Ov}(h:gH bs e n l g):g=0∨g=5:=by
 rcases h with⟨h,_⟩|⟨h,_⟩
 ·exact .inl h
 ·exact .inr h
theorem air {bs:List Int}{e n g:Int}{l:List Ov}(h:gH bs e n l g):0≤e∧e≤1048576∧0≤n∧n≤1048576:=by
 rcases h with⟨_,h,_⟩|⟨_,rfl,rfl,_⟩
 ·obtain⟨h1,h2,h3,h4,_⟩:=bu h
  omega
 ·omega
def akf (bs:List Int):Prop:=∀x:Nat,x≤1048576→¬enc x<+:bs
theorem aoJ {bs:List Int}(h:akf bs):∀e n l,aJ e n l=0→iL e n l≠bs:=by
 intro e n l hc he
 obtain⟨h1,h2,_⟩:=bu hc
 exact h e.toNat (by omega) (by rw[←he];exact List.prefix_append _ _)
theorem ahc {x:Nat}{bs:List Int}(h:enc x<+:bs):bs=enc x++bs.drop (sz x):=by
 obtain⟨t,rfl⟩:=h
 simp[sz]
theorem anf {bs:List Int}{x:Nat}(hx:enc x<+:bs)(h:akf (bs.drop (sz x))):∀e n l,aJ e n l=0→iL e n l≠bs:=by
 intro e n l hc he
 obtain⟨h1,h2,h3,h4,_⟩:=bu hc
 have p:enc e.toNat<+:bs:=by rw[←he];exact List.prefix_append _ _
 obtain rfl:=bI _ _ _ hx p
 refine h n.toNat (by omega) ?_
 rw[←he]
 simp[iL,sz]
theorem aeF {bs:List Int}{x y:Nat}(hx:enc x<+:bs)(hy:enc y<+:bs.drop (sz x)):bs=enc x++(enc y++bs.drop (sz x+sz y)):=by
 have h1:=ahc hx
 have h2:=ahc hy
 rw[List.drop_drop]at h2
 rw[←h2]
 exact h1
theorem zw {bs:List Int}{x y:Nat}{e n:Int}{l:List Ov}(hx:enc x<+:bs)(hy:enc y<+:bs.drop (sz x))(hc:aJ e n l=0)(he:iL e n l=bs):e=x∧n=y∧eQ l=bs.drop (sz x+sz y):=by
 obtain⟨h1,h2,h3,h4,h5⟩:=bu hc
 have p:enc e.toNat<+:bs:=by rw[←he];exact List.prefix_append _ _
 have e1:=bI _ _ _ hx p
 have q:enc n.toNat<+:bs.drop (sz x):=by rw[←he,e1];simp[iL,sz]
 have e2:=bI _ _ _ hy q
 refine⟨by omega,by omega,?_⟩
 have hb:=aeF hx hy
 rw[←he]at hb
 unfold iL at hb
 rw[e1,e2]at hb
 have:=List.append_cancel_left (List.append_cancel_left hb)
 rw[this,←he,e1,e2,iL]
theorem arw {bs:List Int}{x y:Nat}(hx:enc x<+:bs)(hy:enc y<+:bs.drop (sz x))(h:∀m,eF m=0→¬eQ m<+:bs.drop (sz x+sz y)):∀e n l,aJ e n l=0→iL e n l≠bs:=by
 intro e n l hc he
 obtain⟨_,_,h3⟩:=zw hx hy hc he
 exact h l (bu hc).2.2.2.2 (by rw[h3];exact List.prefix_refl _)
theorem ajx {bs:List Int}{x y:Nat}{m:List Ov}(hx:enc x<+:bs)(hy:enc y<+:bs.drop (sz x))(hm:eF m=0)(hp:eQ m<+:bs.drop (sz x+sz y))(h:sz x+sz y+(eQ m).length≠bs.length∨aJ x y m≠0):∀e n l,aJ e n l=0→iL e n l≠bs:=by
 intro e n l hc he
 obtain⟨rfl,rfl,h3⟩:=zw hx hy hc he
 obtain rfl:=ze hp (show eQ l<+:_ by rw[h3];exact List.prefix_refl _) (shapes hm) (shapes (bu hc).2.2.2.2)
 rcases h with h|h
 ·apply h
  have:=congrArg List.length he
  simp only[iL,List.length_append,Int.toNat_natCast]at this
  unfold sz
  omega
 ·exact h hc
theorem an4 {bs:List Int}{x y:Nat}{m:List Ov}(hx:enc x<+:bs)(hy:enc y<+:bs.drop (sz x))(hp:eQ m<+:bs.drop (sz x+sz y))(hl:sz x+sz y+(eQ m).length=bs.length):iL x y m=bs:=by
 have h1:=aeF hx hy
 have h2:eQ m=bs.drop (sz x+sz y):=by
  obtain⟨t,ht⟩:=hp
  have:=congrArg List.length ht
  simp only[List.length_append,List.length_drop]at this
  have:t=[]:=List.eq_nil_of_length_eq_zero (by omega)
  subst this
  simpa using ht
 unfold iL
 rw[Int.toNat_natCast,Int.toNat_natCast,h2]
 exact h1.symm
def fol (ep nu:Int) (i:Nat):List Cv→Int×Int
 |[]=>(0,0)
 |c::r=>if aJ c.e c.n c.l≠0 then(aJ c.e c.n c.l,i)else if c.n-1≠nu∨c.e<ep then(15,i)else fol c.e c.n (i+1) r
theorem ai8 (ep nu:Int)(i:Nat):fol ep nu i []=(0,0):=rfl
theorem zX {ep nu:Int}{i:Nat}{c:Cv}{r:List Cv}(h:aJ c.e c.n c.l≠0):fol ep nu i (c::r)=(aJ c.e c.n c.l,(i:Int)):=by simp[fol,h]
theorem zY {ep nu:Int}{i:Nat}{c:Cv}{r:List Cv}(h:aJ c.e c.n c.l=0)(h':c.n-1≠nu∨c.e<ep):fol ep nu i (c::r)=(15,(i:Int)):=by rw[fol,if_neg (by simp[h]),if_pos h']
theorem acU {ep nu:Int}{i:Nat}{c:Cv}{r:List Cv}(h:aJ c.e c.n c.l=0)(h':¬(c.n-1≠nu∨c.e<ep)):fol ep nu i (c::r)=fol c.e c.n (i+1) r:=by rw[fol,if_neg (by simp[h]),if_neg h']
def flt (at':Int) (ep nu:Int) (c:Cv):Int×Int:=if aJ c.e c.n c.l≠0 then(aJ c.e c.n c.l,at')else if c.n-1≠nu∨c.e<ep then(15,at')else(0,0)
theorem adx {a ep nu:Int}{c:Cv}(h:aJ c.e c.n c.l≠0):flt a ep nu c=(aJ c.e c.n c.l,a):=by simp[flt,h]
theorem adt {a ep nu:Int}{c:Cv}(h:aJ c.e c.n c.l=0)(h':c.n-1≠nu∨c.e<ep):flt a ep nu c=(15,a):=by rw[flt,if_neg (by simp[h]),if_pos h']
theorem agA {a ep nu:Int}{c:Cv}(h:aJ c.e c.n c.l=0)(h':¬(c.n-1≠nu∨c.e<ep)):flt a ep nu c=(0,0):=by rw[flt,if_neg (by simp[h]),if_neg h']
theorem agv {a ep nu:Int}{c:Cv}(h:(flt a ep nu c).1=0):aJ c.e c.n c.l=0∧¬(c.n-1≠nu∨c.e<ep)∧(flt a ep nu c).2=0:=by
 by_cases h1:aJ c.e c.n c.l=0
 ·by_cases h2:c.n-1≠nu∨c.e<ep
  ·rw[adt h1 h2]at h
   simp at h
  ·refine⟨h1,h2,?_⟩
   rw[agA h1 h2]
 ·rw[adx h1]at h
  exact absurd h h1
theorem ao5 {ep nu:Int}{i:Nat}{c:Cv}{r:List Cv}(h:(flt i ep nu c).1≠0):fol ep nu i (c::r)=flt i ep nu c:=by
 by_cases h1:aJ c.e c.n c.l=0
 ·by_cases h2:c.n-1≠nu∨c.e<ep
  ·rw[adt h1 h2,zY h1 h2]
  ·rw[agA h1 h2]at h
   simp at h
 ·rw[adx h1,zX h1]
theorem aoN {ep nu:Int}{i:Nat}{c:Cv}{r:List Cv}(h:(flt i ep nu c).1=0):fol ep nu i (c::r)=fol c.e c.n (i+1) r:=by
 obtain⟨h1,h2,_⟩:=agv h
 exact acU h1 h2
def Good (ep nu:Int):List Cv→Prop
 |[]=>True
 |c::r=>aJ c.e c.n c.l=0∧c.n-1=nu∧ep≤c.e∧Good c.e c.n r
theorem il:∀(l:List Cv) (ep nu:Int) (i:Nat),(fol ep nu i l).1=0↔Good ep nu l
 |[],_,_,_=>by simp[fol,Good]
 |c::r,ep,nu,i=>by
  by_cases h1:aJ c.e c.n c.l=0
  ·by_cases h2:c.n-1≠nu∨c.e<ep
   ·rw[zY h1 h2]
    simp only[Good]
    constructor
    ·intro h;simp at h
    ·intro h;omega
   ·rw[acU h1 h2,il r]
    simp only[Good]
    constructor
    ·intro h;exact⟨h1,by omega,by omega,h⟩
    ·intro h;exact h.2.2.2
  ·rw[zX h1]
   simp only[Good]
   constructor
   ·intro h;exact absurd h h1
   ·intro h;exact absurd h.1 h1
theorem ahX:∀(l:List Cv) (ep nu:Int) (i:Nat),(fol ep nu i l).1=0→(fol ep nu i l).2=0
 |[],_,_,_,_=>rfl
 |c::r,ep,nu,i,h=>by
  by_cases h1:aJ c.e c.n c.l=0
  ·by_cases h2:c.n-1≠nu∨c.e<ep
   ·rw[zY h1 h2]at h
    simp at h
   ·rw[acU h1 h2]at h⊢
    exact ahX r _ _ _ h
  ·rw[zX h1]at h
   exact absurd h h1
def lastE (ep:Int):List Cv→Int
 |[]=>ep
 |c::r=>lastE c.e r
def lastN (nu:Int):List Cv→Int
 |[]=>nu
 |c::r=>lastN c.n r
theorem dG:∀(l m:List Cv) (ep nu:Int),Good ep nu (l++m)↔Good ep nu l∧Good (lastE ep l) (lastN nu l) m
 |[],m,_,_=>by simp[Good,lastE,lastN]
 |c::r,m,ep,nu=>by
  simp only[List.cons_append,Good,lastE,lastN,dG r m]
  constructor
  ·rintro⟨h1,h2,h3,h4,h5⟩;exact⟨⟨h1,h2,h3,h4⟩,h5⟩
  ·rintro⟨⟨h1,h2,h3,h4⟩,h5⟩;exact⟨h1,h2,h3,h4,h5⟩
theorem dX:∀(l:List Cv) (c:Cv) (ep nu:Int),lastE ep (l++[c])=c.e∧lastN nu (l++[c])=c.n
 |[],_,_,_=>⟨rfl,rfl⟩
 |d::r,c,ep,nu=>by simpa[lastE,lastN]using dX r c d.e d.n
theorem lY {l:List Cv}{ep nu:Int}(h:Good ep nu l)(k:Nat):Good ep nu (l.take k):=by
 rw[←List.take_append_drop k l,dG]at h
 exact h.1
theorem qK:∀(l:List Cv) (ep nu:Int) (k:Nat) (c:Cv),Good ep nu l→l[k]? =some c→aJ c.e c.n c.l=0∧c.n-1-k=nu∧lastE ep (l.take k)≤c.e∧lastN nu (l.take k)=nu+k
 |[],_,_,_,_,_,h=>by simp at h
 |d::r,ep,nu,0,c,hg,h=>by
  simp at h
  subst h
  obtain⟨h1,h2,h3,_⟩:=hg
  exact⟨h1,by omega,by simpa[lastE]using h3,by simp[lastN]⟩
 |d::r,ep,nu,k+1,c,hg,h=>by
  obtain⟨h1,h2,h3,h4⟩:=hg
  obtain⟨g1,g2,g3,g4⟩:=qK r d.e d.n k c h4 (by simpa using h)
  refine⟨g1,by omega,by simpa[lastE]using g3,?_⟩
  simp only[List.take_succ_cons,lastN]
  rw[g4]
  omega
end Go.Proofs.YtpifdeoepppadaaGreatDoor.Cm
namespace Go.Proofs.YtpifdeoepppadaaGreatDoor
set_option linter.unusedVariables false
namespace Fm
def dh (r:List Int):List Int:=Vm.enc r.length++r
theorem jF (r:List Int):(dh r).length=Vm.sz r.length+r.length:=by unfold dh Vm.sz;rw[List.length_append]
theorem qM (r:List Int):1≤(dh r).length:=by have:=Vm.sJ r.length;rw[jF];omega
theorem fZ {n:Nat}(h:n≤131072):Vm.sz n≤3:=Vm.tH 2 n (by omega)
theorem iR {r s bs:List Int}(h:dh r<+:bs)(h':dh s<+:bs):r=s:=by
 obtain⟨t,ht⟩:=h
 obtain⟨u,hu⟩:=h'
 unfold dh at ht hu
 have hl:r.length=s.length:=Vm.bI bs _ _ ⟨r++t,by rw[←List.append_assoc];exact ht⟩ ⟨s++u,by rw[←List.append_assoc];exact hu⟩
 rw[←hu,hl,List.append_assoc,List.append_assoc]at ht
 have:=List.append_cancel_left ht
 exact(List.append_inj this hl).1
def Rd (bs r:List Int) (n:Nat) (e:Int):Prop:=
 (e=0∧r.length≤131072∧n=Vm.sz r.length+r.length∧dh r<+:bs)∨(e=5∧r=[]∧n=0∧∀s:List Int,s.length≤131072→¬dh s<+:bs)
theorem avJ {bs:List Int}{x:Nat}(h:Vm.enc x<+:bs)(hx:x≤bs.length-Vm.sz x):((bs.drop (Vm.sz x)).take x).length=x∧dh ((bs.drop (Vm.sz x)).take x)<+:bs:=by
 have hl:((bs.drop (Vm.sz x)).take x).length=x:=by rw[List.length_take,List.length_drop];omega
 refine⟨hl,?_⟩
 obtain⟨t,ht⟩:=h
 have hd:bs.drop (Vm.sz x)=t:=by rw[←ht];exact List.drop_left
 unfold dh
 rw[hl]
 rw[hd]at*
 exact⟨t.drop x,by rw[List.append_assoc,List.take_append_drop];exact ht⟩
theorem adP {bs r:List Int}(h:dh r<+:bs):Vm.enc r.length<+:bs∧r.length≤bs.length-Vm.sz r.length∧Vm.sz r.length+r.length≤bs.length:=by
 have hl:=h.length_le
 rw[jF]at hl
 refine⟨(List.prefix_append _ _).trans h,by omega,hl⟩
def cat:List (List Int)→List Int
 |[]=>[]
 |r::l=>dh r++cat l
theorem nV:∀(l m:List (List Int)),cat (l++m)=cat l++cat m
 |[],m=>rfl
 |r::l,m=>by simp[cat,nV l m]
theorem uS (r:List Int):cat [r]=dh r:=by simp[cat]
def Sc (bs:List Int) (l:List (List Int)):Prop:=
 (∀r∈l,r.length≤131072)∧cat l<+:bs∧∀s:List Int,s.length≤131072→¬dh s<+:bs.drop (cat l).length
theorem jK {a b c:List Int}(h:a++b<+:c):b<+:c.drop a.length:=by
 obtain⟨t,ht⟩:=h
 rw[←ht,List.append_assoc,List.drop_left]
 exact List.prefix_append _ _
theorem og {a b c:List Int}(h:a<+:c)(h':b<+:c.drop a.length):a++b<+:c:=by
 obtain⟨t,rfl⟩:=h
 rw[List.drop_left]at h'
 obtain⟨u,rfl⟩:=h'
 exact⟨u,by rw[List.append_assoc]⟩
theorem atV {bs r:List Int}{l:List (List Int)}(h:cat l<+:bs)(h':dh r<+:bs.drop (cat l).length):cat (l++[r])<+:bs∧(cat (l++[r])).length=(cat l).length+(Vm.sz r.length+r.length):=by
 rw[nV,uS]
 exact⟨og h h',by rw[List.length_append,jF]⟩
theorem ayX:∀{l:List (List Int)} {k n:Nat},(∀r∈l,r.length≤131072)→n≤l.length→(cat (l.take n)).length≤k→(n<l.length→k<(cat (l.take (n+1))).length)→k≤(cat l).length→Sc ((cat l).take k) (l.take n):=by
 intro l k n hw hn hk hk' hkl
 have e1:cat l=cat (l.take n)++cat (l.drop n):=by rw[←nV,List.take_append_drop]
 have e2:(cat l).take k=cat (l.take n)++(cat (l.drop n)).take (k-(cat (l.take n)).length):=by
  rw[e1,List.take_append]
  rw[List.take_of_length_le hk]
 refine⟨fun r hr=>hw r (List.mem_of_mem_take hr),by rw[e2];exact List.prefix_append _ _,fun s hs h=>?_⟩
 rw[e2,List.drop_left]at h
 by_cases hlt:n<l.length
 ·have hd:l.drop n=l[n]::l.drop (n+1):=List.drop_eq_getElem_cons hlt
  have h2:=h.trans (List.take_prefix _ _)
  rw[hd,cat]at h2
  have e3:s=l[n]:=iR h2 (List.prefix_append _ _)
  have h3:=h.length_le
  rw[List.length_take]at h3
  have h4:=hk' hlt
  rw[List.take_succ_eq_append_getElem hlt,nV,uS,List.length_append,←e3]at h4
  omega
 ·have hd:l.drop n=[]:=List.drop_eq_nil_of_le (by omega)
  rw[hd,cat,List.take_nil]at h
  have h1:=h.length_le
  have h2:=qM s
  rw[List.length_nil]at h1
  omega
end Fm
end Go.Proofs.YtpifdeoepppadaaGreatDoor
namespace Go.Proofs.YtpifdeoepppadaaGreatDoor
set_option linter.unusedVariables false
namespace Wl
open Cm
def rec (c:Cv):List Int:=iL c.e c.n c.l
def fr (c:Cv):List Int:=Fm.dh (rec c)
def aW (l:List Cv):List Int:=Fm.cat (l.map rec)
theorem eY (c:Cv)(l:List Cv):aW (c::l)=fr c++aW l:=rfl
theorem jC (l m:List Cv):aW (l++m)=aW l++aW m:=by unfold aW;rw[List.map_append,Fm.nV]
theorem lU (c:Cv):aW [c]=fr c:=by unfold aW fr;exact Fm.uS _
theorem lq (c:Cv):1≤(fr c).length:=Fm.qM _
theorem mh {c:Cv}(h:aJ c.e c.n c.l=0):(rec c).length≤430:=abG h
theorem kR {c:Cv}(h:aJ c.e c.n c.l=0):(fr c).length≤433:=by
 have:=mh h
 unfold fr
 rw[Fm.jF]
 have:=Fm.fZ (n:=(rec c).length) (by omega)
 omega
theorem pJ {c d:Cv}{bs:List Int}(hc:aJ c.e c.n c.l=0)(hd:aJ d.e d.n d.l=0)(h:fr c<+:bs)(h':fr d<+:bs):c=d:=by
 obtain⟨e1,e2,e3⟩:=aaZ hc hd (Fm.iR h h')
 cases c
 cases d
 simp only at e1 e2 e3
 rw[e1,e2,e3]
def Lg (ep nu:Int) (bs:List Int) (l:List Cv):Prop:=
 Cm.Good ep nu l∧aW l<+:bs∧∀c,Cm.Good (lastE ep l) (lastN nu l) [c]→¬fr c<+:bs.drop (aW l).length
theorem gM {ep nu:Int}{c:Cv}{l:List Cv}:Cm.Good ep nu (c::l)↔Cm.Good ep nu [c]∧Cm.Good c.e c.n l:=by
 have:=dG [c] l ep nu
 rw[List.singleton_append]at this
 exact this
theorem fq {ep nu:Int}{c:Cv}{l:List Cv}(h:Cm.Good ep nu (c::l)):aJ c.e c.n c.l=0:=h.1
theorem iy {ep nu:Int}{bs:List Int}{c:Cv}{l:List Cv}(h:Lg ep nu bs (c::l)):Cm.Good ep nu [c]∧fr c<+:bs∧Lg c.e c.n (bs.drop (fr c).length) l:=by
 obtain⟨h1,h2,h3⟩:=h
 rw[eY]at h2
 obtain⟨g1,g2⟩:=gM.1 h1
 refine⟨g1,(List.prefix_append _ _).trans h2,g2,Fm.jK h2,fun d hd=>?_⟩
 rw[List.drop_drop,←List.length_append,←eY]
 exact h3 d hd
theorem rA:∀{l m:List Cv} {ep nu:Int} {bs:List Int},Lg ep nu bs l→Lg ep nu bs m→l=m
 |[],[],_,_,_,_,_=>rfl
 |[],c::m,ep,nu,bs,h,h'=>by
  obtain⟨h1,h2,_⟩:=iy h'
  exact absurd h2 (h.2.2 c h1)
 |c::l,[],ep,nu,bs,h,h'=>by
  obtain⟨h1,h2,_⟩:=iy h
  exact absurd h2 (h'.2.2 c h1)
 |c::l,d::m,ep,nu,bs,h,h'=>by
  obtain⟨h1,h2,h3⟩:=iy h
  obtain⟨g1,g2,g3⟩:=iy h'
  have e:=pJ (fq h1) (fq g1) h2 g2
  subst e
  rw[rA h3 g3]
theorem acY {ep nu:Int}{bs:List Int}{c:Cv}{l:List Cv}(h1:Cm.Good ep nu [c])(h2:fr c<+:bs)(h3:Lg c.e c.n (bs.drop (fr c).length) l):Lg ep nu bs (c::l):=by
 obtain⟨g1,g2,g3⟩:=h3
 refine⟨gM.2 ⟨h1,g1⟩,Fm.og h2 g2,fun d hd=>?_⟩
 have:=g3 d hd
 rw[List.drop_drop,←List.length_append,←eY]at this
 exact this
theorem akn (ep nu:Int)(bs:List Int):∃l,Lg ep nu bs l:=by
 suffices h:∀n (ep nu:Int) (bs:List Int),bs.length≤n→∃l,Lg ep nu bs l from h _ ep nu bs (Nat.le_refl _)
 intro n
 induction n with
 |zero=>
  intro ep nu bs hb
  refine⟨[],trivial,List.nil_prefix,fun c _ h=>?_⟩
  have h1:=h.length_le
  have h2:=lq c
  rw[List.length_drop]at h1
  omega
 |succ n ih=>
  intro ep nu bs hb
  by_cases h:∃c,Cm.Good ep nu [c]∧fr c<+:bs
  ·obtain⟨c,h1,h2⟩:=h
   have hp:=lq c
   obtain⟨l,hl⟩:=ih c.e c.n (bs.drop (fr c).length) (by rw[List.length_drop];omega)
   exact⟨c::l,acY h1 h2 hl⟩
  ·exact⟨[],trivial,List.nil_prefix,fun c h1 h2=>h ⟨c,h1,h2⟩⟩
theorem adz {ep nu:Int}{l:List Cv}(h:Cm.Good ep nu l):Lg ep nu (aW l) l:=by
 refine⟨h,List.prefix_rfl,fun c _ k=>?_⟩
 have h1:=k.length_le
 have h2:=lq c
 rw[List.drop_length,List.length_nil]at h1
 omega
theorem uA:∀{l m:List Cv} {ep nu:Int} {bs:List Int},Cm.Good ep nu l→aW l<+:bs→Lg ep nu bs m→l<+:m
 |[],_,_,_,_,_,_,_=>List.nil_prefix
 |c::l,[],ep,nu,bs,h,h2,hm=>by
  exact absurd ((List.prefix_append _ _).trans h2) (hm.2.2 c (gM.1 h).1)
 |c::l,d::m,ep,nu,bs,h,h2,hm=>by
  obtain⟨g1,g2,g3⟩:=iy hm
  rw[eY]at h2
  have e:=pJ (fq h) (fq g1) ((List.prefix_append _ _).trans h2) g2
  subst e
  have:=uA (gM.1 h).2 (Fm.jK h2) g3
  exact List.cons_prefix_cons.2 ⟨rfl,this⟩
theorem zy:∀{l m:List Cv} {ep nu:Int} {bs:List Int},Cm.Good ep nu l→bs<+:aW l→Lg ep nu bs m→m<+:l
 |_,[],_,_,_,_,_,_=>List.nil_prefix
 |[],d::m,ep,nu,bs,h,h2,hm=>by
  obtain⟨_,g2,_⟩:=iy hm
  have h1:=(g2.trans h2).length_le
  have h3:=lq d
  have h4:(aW []).length=0:=rfl
  omega
 |c::l,d::m,ep,nu,bs,h,h2,hm=>by
  obtain⟨g1,g2,g3⟩:=iy hm
  rw[eY]at h2
  have e:=pJ (fq h) (fq g1) (List.prefix_append _ _) (g2.trans h2)
  subst e
  obtain⟨t,rfl⟩:=g2
  rw[List.drop_left]at g3
  have ht:t<+:aW l:=by
   obtain⟨u,hu⟩:=h2
   rw[List.append_assoc]at hu
   exact⟨u,List.append_cancel_left hu⟩
  exact List.cons_prefix_cons.2 ⟨rfl,zy (gM.1 h).2 ht g3⟩
end Wl
end Go.Proofs.YtpifdeoepppadaaGreatDoor
namespace Go.Proofs.YtpifdeoepppadaaGreatDoor
set_option linter.unusedVariables false
namespace Orp
open Vm Bm
open Cm (Cv Good fol lastE lastN)
structure Se where
 e:Int
 f:Int
 cs:List Cv
def aJ (s:Se):Int:=if s.e<1∨1048576<s.e∨s.f<0∨s.cs.length=0 then 2 else if (fol 1 s.f 0 s.cs).1=0 then(if s.e≤lastE 1 s.cs then 15 else 0)else(fol 1 s.f 0 s.cs).1
theorem auo {s:Se}(h:s.e<1∨1048576<s.e∨s.f<0∨s.cs.length=0):aJ s=2:=if_pos h
theorem au1 {s:Se}(h:¬(s.e<1∨1048576<s.e∨s.f<0∨s.cs.length=0))(h':(fol 1 s.f 0 s.cs).1≠0):aJ s=(fol 1 s.f 0 s.cs).1:=by unfold aJ;rw[if_neg h,if_neg h']
theorem auf {s:Se}(h:¬(s.e<1∨1048576<s.e∨s.f<0∨s.cs.length=0))(h':(fol 1 s.f 0 s.cs).1=0)(h2:s.e≤lastE 1 s.cs):aJ s=15:=by unfold aJ;rw[if_neg h,if_pos h',if_pos h2]
theorem iD {s:Se}(h:¬(s.e<1∨1048576<s.e∨s.f<0∨s.cs.length=0))(h':(fol 1 s.f 0 s.cs).1=0)(h2:¬s.e≤lastE 1 s.cs):aJ s=0:=by unfold aJ;rw[if_neg h,if_pos h',if_neg h2]
theorem aey:∀{l:List Cv} {ep nu:Int},Good ep nu l→(l=[]∨nu+l.length≤1048576)∧∀c∈l,Cm.aJ c.e c.n c.l=0
 |[],_,_,_=>⟨.inl rfl,fun c hc=>by simp at hc⟩
 |c::r,ep,nu,⟨h1,h2,h3,h4⟩=>by
  obtain⟨g1,g2⟩:=aey h4
  obtain⟨_,_,_,h5,_⟩:=Cm.bu h1
  refine⟨.inr ?_,fun d hd=>?_⟩
  ·rcases g1 with rfl|g1
   ·simp;omega
   ·rw[List.length_cons];omega
  ·rcases List.mem_cons.1 hd with rfl|hd
   ·exact h1
   ·exact g2 d hd
theorem bu {s:Se}(h:aJ s=0):1≤s.e∧s.e≤1048576∧0≤s.f∧s.f≤1048576∧1≤s.cs.length∧s.cs.length≤1048576∧Good 1 s.f s.cs∧lastE 1 s.cs<s.e∧∀c∈s.cs,Cm.aJ c.e c.n c.l=0:=by
 unfold aJ at h
 split at h
 ·simp at h
 ·rename_i h1
  split at h
  ·rename_i h2
   split at h
   ·simp at h
   ·have g:=(Cm.il _ _ _ _).1 h2
    obtain⟨g1,g2⟩:=aey g
    rcases g1 with g1|g1
    ·rw[g1]at h1;simp at h1
    ·exact⟨by omega,by omega,by omega,by omega,by omega,by omega,g,by omega,g2⟩
  ·rename_i h2
   exact absurd h h2
def hdr (s:Se):List Int:=enc s.e.toNat++(enc s.f.toNat++enc s.cs.length)
def sec (s:Se):List Int:=Fm.dh (hdr s)++Wl.aW s.cs
def out (s:Se):List Int:=if aJ s=0 then sec s else []
theorem lC {s:Se}(h:aJ s=0):out s=sec s:=if_pos h
theorem rP {s:Se}(h:aJ s≠0):out s=[]:=if_neg h
theorem al5 {s:Se}(h:aJ s=0):(hdr s).length≤9:=by
 obtain⟨h1,h2,h3,h4,h5,h6,_⟩:=bu h
 have a:=Cm.iQ (x:=s.e) (by omega)
 have b:=Cm.iQ (x:=s.f) (by omega)
 have c:(enc s.cs.length).length≤3:=tH 2 _ (by omega)
 unfold hdr
 rw[List.length_append,List.length_append]
 omega
theorem ahS:∀{l:List Cv},(∀c∈l,Cm.aJ c.e c.n c.l=0)→(Wl.aW l).length≤433*l.length
 |[],_=>by simp[Wl.aW,Fm.cat]
 |c::l,h=>by
  have h1:=Wl.kR (h c (by simp))
  have h2:=ahS (l:=l) fun d hd=>h d (by simp[hd])
  rw[Wl.eY,List.length_append,List.length_cons]
  omega
theorem zI (s:Se):1≤(sec s).length:=by
 have:=Fm.qM (hdr s)
 unfold sec
 rw[List.length_append]
 omega
theorem oL {s:Se}{bs:List Int}(h:hdr s<+:bs):enc s.e.toNat<+:bs∧enc s.f.toNat<+:bs.drop (sz s.e.toNat)∧enc s.cs.length<+:bs.drop (sz s.e.toNat+sz s.f.toNat):=by
 unfold hdr at h
 rw[bB,bB,List.drop_drop]at h
 exact h
theorem abn:∀(l m:List Cv) (bs:List Int),l.length=m.length→(∀c∈l,Cm.aJ c.e c.n c.l=0)→(∀c∈m,Cm.aJ c.e c.n c.l=0)→Wl.aW l<+:bs→Wl.aW m<+:bs→l=m
 |[],[],_,_,_,_,_,_=>rfl
 |[],_::_,_,h,_,_,_,_=>by simp at h
 |_::_,[],_,h,_,_,_,_=>by simp at h
 |c::l,d::m,bs,hl,h1,h2,h,g=>by
  rw[Wl.eY,bB]at h g
  have e:=Wl.pJ (h1 c (by simp)) (h2 d (by simp)) h.1 g.1
  subst e
  rw[abn l m _ (by simpa using hl) (fun x hx=>h1 x (by simp[hx])) (fun x hx=>h2 x (by simp[hx])) h.2 g.2]
def No (bs:List Int):Prop:=∀t,aJ t=0→¬sec t<+:bs
def NoH (h:List Int):Prop:=∀t,aJ t=0→hdr t≠h
theorem avP {bs:List Int}(h:∀r:List Int,r.length≤131072→¬Fm.dh r<+:bs):No bs:=fun t ht hp=>by
 have:=al5 ht
 exact h (hdr t) (by omega) ((List.prefix_append _ _).trans hp)
theorem avK {bs h:List Int}(hp:Fm.dh h<+:bs)(hn:NoH h):No bs:=fun t ht hq=>
 hn t ht (Fm.iR ((List.prefix_append _ _).trans hq) hp)
theorem aAD {h:List Int}(k:∀x:Nat,x≤1048576→¬enc x<+:h):NoH h:=fun t ht he=>by
 obtain⟨h1,h2,h3,h4,h5,h6,_⟩:=bu ht
 exact k t.e.toNat (by omega) (oL (he▸List.prefix_rfl:hdr t<+:h)).1
theorem aAQ {h:List Int}{x:Nat}(hx:enc x<+:h)(k:∀y:Nat,y≤1048576→¬enc y<+:h.drop (sz x)):NoH h:=fun t ht he=>by
 obtain⟨h1,h2,h3,h4,h5,h6,_⟩:=bu ht
 obtain⟨p1,p2,_⟩:=oL (he▸List.prefix_rfl:hdr t<+:h)
 rw[←bI _ _ _ hx p1]at p2
 exact k t.f.toNat (by omega) p2
theorem aAg {h:List Int}{x y:Nat}(hx:enc x<+:h)(hy:enc y<+:h.drop (sz x))(k:∀m:Nat,m≤1048576→¬enc m<+:h.drop (sz x+sz y)):NoH h:=fun t ht he=>by
 obtain⟨h1,h2,h3,h4,h5,h6,_⟩:=bu ht
 obtain⟨p1,p2,p3⟩:=oL (he▸List.prefix_rfl:hdr t<+:h)
 rw[←bI _ _ _ hx p1]at p2 p3
 rw[←bI _ _ _ hy p2]at p3
 exact k t.cs.length (by omega) p3
theorem auR (s:Se):(hdr s).length=sz s.e.toNat+sz s.f.toNat+sz s.cs.length:=by
 unfold hdr
 rw[List.length_append,List.length_append]
 unfold sz
 omega
theorem aAW {h:List Int}{x y m:Nat}(hx:enc x<+:h)(hy:enc y<+:h.drop (sz x))(hm:enc m<+:h.drop (sz x+sz y))(hl:sz x+sz y+sz m≠h.length):NoH h:=fun t ht he=>by
 obtain⟨p1,p2,p3⟩:=oL (he▸List.prefix_rfl:hdr t<+:h)
 have e1:=bI _ _ _ hx p1
 rw[←e1]at p2 p3
 have e2:=bI _ _ _ hy p2
 rw[←e2]at p3
 have e3:=bI _ _ _ hm p3
 apply hl
 rw[←he,auR,←e1,←e2,←e3]
theorem avD {h:List Int}{x y m:Nat}(hx:enc x<+:h)(hy:enc y<+:h.drop (sz x))(hm:enc m<+:h.drop (sz x+sz y))(hl:sz x+sz y+sz m=h.length):enc x++(enc y++enc m)=h:=by
 have:enc x++(enc y++enc m)<+:h:=by
  rw[bB,bB,List.drop_drop]
  exact⟨hx,hy,hm⟩
 refine this.eq_of_length ?_
 rw[List.length_append,List.length_append,←hl]
 unfold sz
 omega
theorem ajb {s:Se}{x y m:Nat}(h:hdr s=enc x++(enc y++enc m)):s.e.toNat=x∧s.f.toNat=y∧s.cs.length=m:=by
 have q:enc x++(enc y++enc m)<+:hdr s:=by rw[h];exact List.prefix_rfl
 rw[bB,bB,List.drop_drop]at q
 obtain⟨q1,q2,q3⟩:=q
 obtain⟨p1,p2,p3⟩:=oL (s:=s) List.prefix_rfl
 have e1:=bI _ _ _ q1 p1
 change enc y<+:(hdr s).drop (sz x)at q2
 change enc m<+:(hdr s).drop (sz x+sz y)at q3
 rw[←e1]at p2 p3
 have e2:=bI _ _ _ q2 p2
 rw[←e2]at p3
 exact⟨e1.symm,e2.symm,(bI _ _ _ q3 p3).symm⟩
theorem awu {bs:List Int}{x y m:Nat}{l:List Cv}(hh:Fm.dh (enc x++(enc y++enc m))<+:bs)(hl:Wl.aW l<+:bs.drop (Fm.dh (enc x++(enc y++enc m))).length)(hc:∀c∈l,Cm.aJ c.e c.n c.l=0)(hlt:l.length<m)
  (k:∀c:Cv,Cm.aJ c.e c.n c.l=0→¬Wl.fr c<+:bs.drop ((Fm.dh (enc x++(enc y++enc m))).length+(Wl.aW l).length)):No bs:=fun t ht hp=>by
 obtain⟨h1,h2,h3,h4,h5,h6,_,_,h7⟩:=bu ht
 unfold sec at hp
 rw[bB]at hp
 have e:=Fm.iR hp.1 hh
 obtain⟨_,_,e3⟩:=ajb e
 rw[e]at hp
 have p4:=hp.2
 have hlr:l.length<t.cs.length:=by omega
 have hs:t.cs=t.cs.take l.length++(t.cs[l.length]::t.cs.drop (l.length+1)):=by rw[←List.drop_eq_getElem_cons hlr,List.take_append_drop]
 rw[hs,Wl.jC,bB]at p4
 have hq:=abn l (t.cs.take l.length) _ (by rw[List.length_take];omega) hc (fun o ho=>h7 o (List.mem_of_mem_take ho)) hl p4.1
 have p5:=p4.2
 rw[←hq,List.drop_drop,Wl.eY]at p5
 exact k t.cs[l.length] (h7 _ (List.getElem_mem hlr)) ((List.prefix_append _ _).trans p5)
theorem agX {bs:List Int}{x y:Nat}{l:List Cv}(hh:Fm.dh (enc x++(enc y++enc l.length))<+:bs)(hl:Wl.aW l<+:bs.drop (Fm.dh (enc x++(enc y++enc l.length))).length)(hc:∀c∈l,Cm.aJ c.e c.n c.l=0)
  {t:Se} (ht:aJ t=0) (hp:sec t<+:bs):t=⟨x,y,l⟩:=by
 obtain⟨h1,h2,h3,h4,h5,h6,_,_,h7⟩:=bu ht
 unfold sec at hp
 rw[bB]at hp
 have e:=Fm.iR hp.1 hh
 obtain⟨e1,e2,e3⟩:=ajb e
 rw[e]at hp
 have e4:=abn t.cs l _ e3 h7 hc hp.2 hl
 obtain⟨te,tf,tc⟩:=t
 simp only at e1 e2 e4 h1 h3
 rw[Se.mk.injEq]
 exact⟨by omega,by omega,e4⟩
theorem ayp {bs:List Int}{x y:Nat}{l:List Cv}(hh:Fm.dh (enc x++(enc y++enc l.length))<+:bs)(hl:Wl.aW l<+:bs.drop (Fm.dh (enc x++(enc y++enc l.length))).length)(hc:∀c∈l,Cm.aJ c.e c.n c.l=0)(hk:aJ ⟨x,y,l⟩≠0):No bs:=fun t ht hp=>by
 rw[agX hh hl hc ht hp]at ht
 exact hk ht
theorem aw4 {bs:List Int}{x y:Nat}{l:List Cv}(hh:Fm.dh (enc x++(enc y++enc l.length))<+:bs)(hl:Wl.aW l<+:bs.drop (Fm.dh (enc x++(enc y++enc l.length))).length):sec ⟨x,y,l⟩<+:bs∧(sec ⟨x,y,l⟩).length=(Fm.dh (enc x++(enc y++enc l.length))).length+(Wl.aW l).length:=by
 have e:hdr ⟨x,y,l⟩=enc x++(enc y++enc l.length):=by unfold hdr;simp
 unfold sec
 rw[e]
 exact⟨bB.2 ⟨hh,hl⟩,List.length_append⟩
theorem adZ {s t:Se}{bs:List Int}(hs:aJ s=0)(ht:aJ t=0)(h:sec s<+:bs)(h':sec t<+:bs):s=t:=by
 obtain⟨h1,h2,h3,h4,h5,h6,_,_,h7⟩:=bu hs
 have e:hdr s=enc s.e.toNat++(enc s.f.toNat++enc s.cs.length):=rfl
 have p:=bB.1 h
 rw[e]at p
 have:=agX p.1 p.2 h7 ht h'
 rw[this]
 obtain⟨se,sf,sc⟩:=s
 simp only at h1 h3
 rw[Se.mk.injEq]
 exact⟨by simp;omega,by simp;omega,rfl⟩
def Rd (bs:List Int) (s:Se) (n:Nat) (g:Bool):Prop:=(g=true∧aJ s=0∧sec s<+:bs∧n=(sec s).length)∨(g=false∧No bs)
def Ris (a:Int):List Se→Prop
 |[]=>True
 |s::r=>aJ s=0∧a<s.e∧Ris s.e r
def pX (a:Int):List Se→Int
 |[]=>a
 |s::r=>pX s.e r
def secs:List Se→List Int
 |[]=>[]
 |s::r=>sec s++secs r
theorem apT {a:Int}{s:Se}{l:List Se}:Ris a (s::l)↔Ris a [s]∧Ris s.e l:=by simp[Ris,and_assoc]
theorem ade:∀(l m:List Se) (a:Int),Ris a (l++m)↔Ris a l∧Ris (pX a l) m
 |[],m,a=>by simp[Ris,pX]
 |s::r,m,a=>by simp only[List.cons_append,Ris,pX,ade r m];constructor<;>(rintro⟨_,_⟩;simp_all)
theorem nX:∀(l:List Se) (s:Se) (a:Int),pX a (l++[s])=s.e
 |[],_,_=>rfl
 |q::r,s,a=>by simpa[pX]using nX r s q.e
theorem ai3:∀{l:List Se} {a:Int},Ris a l→∀s∈l,aJ s=0
 |[],_,_,s,hs=>by simp at hs
 |q::r,a,h,s,hs=>by
  rcases List.mem_cons.1 hs with rfl|hs
  ·exact h.1
  ·exact ai3 h.2.2 s hs
theorem ma (s:Se)(l:List Se):secs (s::l)=sec s++secs l:=rfl
theorem qO:∀(l m:List Se),secs (l++m)=secs l++secs m
 |[],_=>rfl
 |s::l,m=>by rw[List.cons_append,ma,ma,qO l m,List.append_assoc]
theorem abo (s:Se):secs [s]=sec s:=by simp[secs]
theorem agF:∀(l:List Se),l.length≤(secs l).length
 |[]=>by simp
 |s::l=>by
  have:=agF l
  have:=zI s
  rw[ma,List.length_append,List.length_cons]
  omega
def Sn (a:Int) (bs:List Int) (l:List Se):Prop:=Ris a l∧secs l<+:bs∧∀t,Ris (pX a l) [t]→¬sec t<+:bs.drop (secs l).length
theorem zQ {a:Int}{bs:List Int}{s:Se}{l:List Se}(h:Sn a bs (s::l)):Ris a [s]∧sec s<+:bs∧Sn s.e (bs.drop (sec s).length) l:=by
 obtain⟨h1,h2,h3⟩:=h
 rw[ma]at h2
 obtain⟨g1,g2⟩:=apT.1 h1
 refine⟨g1,(List.prefix_append _ _).trans h2,g2,Fm.jK h2,fun d hd=>?_⟩
 rw[List.drop_drop,←List.length_append,←ma]
 exact h3 d hd
theorem vC:∀{l m:List Se} {a:Int} {bs:List Int},Sn a bs l→Sn a bs m→l=m
 |[],[],_,_,_,_=>rfl
 |[],c::m,a,bs,h,h'=>by
  obtain⟨h1,h2,_⟩:=zQ h'
  exact absurd h2 (h.2.2 c h1)
 |c::l,[],a,bs,h,h'=>by
  obtain⟨h1,h2,_⟩:=zQ h
  exact absurd h2 (h'.2.2 c h1)
 |c::l,d::m,a,bs,h,h'=>by
  obtain⟨h1,h2,h3⟩:=zQ h
  obtain⟨g1,g2,g3⟩:=zQ h'
  have e:=adZ h1.1 g1.1 h2 g2
  subst e
  rw[vC h3 g3]
theorem ayn {l:List Se}{a:Int}{k n:Nat}(h:Ris a l)(hn:n≤l.length)(h1:(secs (l.take n)).length≤k)(h2:n<l.length→k<(secs (l.take (n+1))).length)(h3:k≤(secs l).length):Sn a ((secs l).take k) (l.take n):=by
 have hs:secs l=secs (l.take n)++secs (l.drop n):=by rw[←qO,List.take_append_drop]
 have hr:=h
 rw[←List.take_append_drop n l,ade]at hr
 have ht:(secs l).take k=secs (l.take n)++(secs (l.drop n)).take (k-(secs (l.take n)).length):=by
  rw[hs,List.take_append,List.take_of_length_le h1]
 refine⟨hr.1,?_,fun t hR hp=>?_⟩
 ·rw[ht];exact List.prefix_append _ _
 ·rw[ht,List.drop_left]at hp
  by_cases hlt:n<l.length
  ·have hd:l.drop n=l[n]::l.drop (n+1):=List.drop_eq_getElem_cons hlt
   have hk:=h2 hlt
   rw[List.take_succ_eq_append_getElem hlt,qO,abo,List.length_append]at hk
   have hq:sec t<+:secs (l.drop n):=hp.trans (List.take_prefix _ _)
   have e:=adZ hR.1 (ai3 h l[n] (List.getElem_mem hlt)) hq (by rw[hd,ma];exact List.prefix_append _ _)
   have:=hp.length_le
   rw[e,List.length_take]at this
   omega
  ·have hd:l.drop n=[]:=List.drop_eq_nil_of_le (by omega)
   rw[hd]at hp
   have h4:=hp.length_le
   have h5:=zI t
   rw[show secs []=[]from rfl,List.take_nil,List.length_nil]at h4
   omega
theorem zW {a:Int}{l:List Se}(h:Ris a l):Sn a (secs l) l:=by
 have:=ayn (k:=(secs l).length) (n:=l.length) h (Nat.le_refl _) (by rw[List.take_length];exact Nat.le_refl _) (fun h=>absurd h (Nat.lt_irrefl _)) (Nat.le_refl _)
 rwa[List.take_length,List.take_length]at this
def has (l:List Se) (e n:Int):Bool:=l.any fun s=>s.cs.any fun c=>c.e==e&&c.n==n
end Orp
end Go.Proofs.YtpifdeoepppadaaGreatDoor
namespace Go.Proofs.YtpifdeoepppadaaGreatDoor.Dm
set_option linter.unusedVariables false
structure Rw where
 file:Nat
 cut:Bool
 to:Nat
 bytes:List Int
structure Ds where
 sure:Nat→List Int
 wait:List Rw
 on:Bool
 has:Bool
 left:Nat
 count:Nat
def upd (s:Nat→List Int) (f:Nat) (x:List Int):Nat→List Int:=fun j=>if j=f then x else s j
theorem sG (s:Nat→List Int)(f:Nat)(x:List Int):upd s f x f=x:=by simp[upd]
theorem sW {s:Nat→List Int}{f j:Nat}{x:List Int}(h:j≠f):upd s f x j=s j:=by simp[upd,h]
def iC (b:List Int) (r:Rw):List Int:=if r.cut then b.take r.to else b++r.bytes
def one (s:Nat→List Int) (r:Rw):Nat→List Int:=upd s r.file (iC (s r.file) r)
def dof (s:Nat→List Int):List Rw→Nat→List Int
 |[]=>s
 |r::l=>dof (one s r) l
theorem aiL:∀(l m:List Rw) (s:Nat→List Int),dof s (l++m)=dof (dof s l) m
 |[],_,_=>rfl
 |r::l,m,s=>aiL l m (one s r)
theorem arN (l:List Rw)(r:Rw)(s:Nat→List Int):dof s (l++[r])=one (dof s l) r:=aiL l [r] s
def hold (f:Nat) (b:List Int):List Rw→List Int
 |[]=>b
 |r::l=>hold f (if r.file=f then iC b r else b) l
theorem eX:∀(l:List Rw) (s:Nat→List Int) (f:Nat),hold f (s f) l=dof s l f
 |[],_,_=>rfl
 |r::l,s,f=>by
  rw[hold,dof,←eX l (one s r) f]
  congr 1
  by_cases h:r.file=f
  ·subst h;rw[if_pos rfl,one,sG]
  ·rw[if_neg h,one,sW (Ne.symm h)]
theorem rO:∀(l m:List Rw) (b:List Int) (f:Nat),hold f b (l++m)=hold f (hold f b l) m
 |[],_,_,_=>rfl
 |r::l,m,b,f=>rO l m _ f
theorem lV (l:List Rw)(r:Rw)(b:List Int)(f:Nat):hold f b (l++[r])=if r.file=f then iC (hold f b l) r else hold f b l:=rO l [r] b f
def fits (s:Nat→List Int) (r:Rw):Prop:=r.file<4∧(r.cut=true→r.to≤(s r.file).length)∧(r.cut=false→1≤r.bytes.length∧r.bytes.length≤64)
def valid (s:Nat→List Int):List Rw→Prop
 |[]=>True
 |r::l=>fits s r∧valid (one s r) l
theorem tK:∀(l m:List Rw) (s:Nat→List Int),valid s (l++m)↔valid s l∧valid (dof s l) m
 |[],_,_=>by simp[valid,dof]
 |r::l,m,s=>by simp[valid,dof,tK l m,and_assoc]
theorem aa3 {l:List Rw}{s:Nat→List Int}(h:valid s l){k:Nat}{r:Rw}(hk:l[k]? =some r):fits (dof s (l.take k)) r:=by
 obtain⟨hlt,rfl⟩:=List.getElem?_eq_some_iff.1 hk
 rw[←List.take_append_drop k l,tK,List.drop_eq_getElem_cons hlt]at h
 exact h.2.1
def bulk:List Rw→Nat
 |[]=>0
 |r::l=>r.bytes.length+bulk l
theorem vX:∀(l m:List Rw),bulk (l++m)=bulk l+bulk m
 |[],_=>by simp[bulk]
 |r::l,m=>by simp[bulk,vX l m];omega
theorem aue (b:List Int)(r:Rw):(iC b r).length≤b.length+r.bytes.length:=by
 unfold iC
 split
 ·rw[List.length_take];omega
 ·simp
theorem kD:∀(l:List Rw) (b:List Int) (f:Nat),(hold f b l).length≤b.length+bulk l
 |[],_,_=>by simp[hold,bulk]
 |r::l,b,f=>by
  have h1:=kD l (if r.file=f then iC b r else b) f
  have h2:=aue b r
  simp only[hold,bulk]
  split at h1<;>simp_all<;>omega
def Sz (t u:Nat) (st:Ds):Prop:=(∀f,(st.sure f).length+bulk st.wait≤t)∧st.wait.length≤u∧st.count≤u
def Ok (st:Ds):Prop:=valid st.sure st.wait
def off (st:Ds):Bool:=st.has&&st.left==0
def cO (st:Ds):Ds:={st with left:=if st.has then st.left-1 else st.left,count:=st.count+1}
def iK (st:Ds):Ds:={st with on:=false}
def push (st:Ds) (r:Rw):Ds:={st with wait:=st.wait++[r]}
def wrt (file:Nat):Nat→Ds→List Int→Int×Ds
 |0,st,_=>(0,st)
 |n+1,st,bs=>if bs=[]then(0,st)else if off st then(6,iK st)else wrt file n (push (cO st) ⟨file,false,0,bs.take 64⟩) (bs.drop 64)
def iV (file:Int):Bool:=decide (0≤file)&&decide (file<4)
def write (st:Ds) (file:Int) (bs:List Int):Int×Ds:=if st.on=false then(6,st)else if iV file=false then(2,st)else wrt file.toNat bs.length st bs
def bg (st:Ds) (file len:Int):Int×Ds:=if st.on=false then(6,st)else if iV file=false then(2,st)else if len<0∨(hold file.toNat (st.sure file.toNat) st.wait).length<len then(2,st)else if off st then(6,iK st)else(0,push (cO st) ⟨file.toNat,true,len.toNat,[]⟩)
def flush (st:Ds):Ds:={st with sure:=dof st.sure st.wait,wait:=[]}
def sync (st:Ds):Int×Ds:=if st.on=false then(6,st)else if off st then(6,iK st)else(0,flush (cO st))
def pR (st:Ds) (n:Int):Int×Ds:=if st.on=false then(6,st)else if n<0 then(2,st)else(0,{st with has:=true,left:=n.toNat})
def pull (st:Ds):Int×Ds:=if st.on=false then(6,st)else(0,iK st)
def kept (st:Ds) (k t:Nat):Nat→List Int:=
 match st.wait[k]? with
 |some r=>if r.cut then dof st.sure (st.wait.take k)else one (dof st.sure (st.wait.take k)) ⟨r.file,false,0,r.bytes.take (min t (r.bytes.length-1))⟩
 |none=>dof st.sure (st.wait.take k)
def start (st:Ds) (k t:Int):Int×Ds:=if st.on=true∨k<0∨t<0 then(2,st)else(0,{st with sure:=kept st k.toNat t.toNat,wait:=[],has:=false,on:=true})
def new:Ds:=⟨fun _=>[],[],true,false,0,0⟩
end Go.Proofs.YtpifdeoepppadaaGreatDoor.Dm
namespace Go.Proofs.YtpifdeoepppadaaGreatDoor
set_option linter.unusedVariables false
namespace Orp
open Dm
def hl (st:Ds):List Int:=hold 3 (st.sure 3) st.wait
def wr2 (st:Ds) (s:Se):Int×Ds:=
 if (write st 3 (sec s)).1≠0 then(6,(write st 3 (sec s)).2)else if (sync (write st 3 (sec s)).2).1≠0 then(6,(sync (write st 3 (sec s)).2).2)else(0,(sync (write st 3 (sec s)).2).2)
def wr1 (st:Ds) (base:Int) (s:Se):Int×Ds:=
 if base<(hl st).length then(if (bg st 3 base).1≠0 then(6,(bg st 3 base).2)else wr2 (bg st 3 base).2 s)else wr2 st s
def wrS (st:Ds) (base:Int) (s:Se):Int×Ds:=
 if st.on=false then(6,st)else if aJ s≠0 then(aJ s,st)else if base<0∨((hl st).length:Int)<base then(2,st)else wr1 st base s
theorem ayL {st:Ds}{base:Int}{s:Se}(h:st.on=true)(h2:aJ s=0)(h3:¬(base<0∨((hl st).length:Int)<base)):wrS st base s=wr1 st base s:=by unfold wrS;rw[if_neg (by simp[h]),if_neg (by simp[h2]),if_neg h3]
theorem auq {st:Ds}(bs:List Int):hl (push (cO st) ⟨3,false,0,bs⟩)=hl st++bs:=by
 unfold hl push cO
 simp only
 rw[lV]
 simp[iC]
theorem av0 {st:Ds}(n:Nat):hl (push (cO st) ⟨3,true,n,[]⟩)=(hl st).take n:=by
 unfold hl push cO
 simp only
 rw[lV]
 simp[iC]
theorem azm:∀(n:Nat) (st:Ds) (bs:List Int),bs.length≤n→st.on=true→
  ((wrt 3 n st bs).1=0∧(wrt 3 n st bs).2.on=true∧hl (wrt 3 n st bs).2=hl st++bs∨(wrt 3 n st bs).1=6∧(wrt 3 n st bs).2.on=false)∧
  (wrt 3 n st bs).2.sure=st.sure∧(∀r∈(wrt 3 n st bs).2.wait,r∈st.wait∨r.cut=false)∧(st.has=false→(wrt 3 n st bs).1=0∧(wrt 3 n st bs).2.has=false)
 |0,st,bs,hb,ho=>by
  have:bs=[]:=List.eq_nil_of_length_eq_zero (by omega)
  subst this
  exact⟨.inl ⟨rfl,ho,by simp[wrt]⟩,rfl,fun r hr=>.inl hr,fun h=>⟨rfl,h⟩⟩
 |n+1,st,bs,hb,ho=>by
  unfold wrt
  by_cases h0:bs=[]
  ·subst h0
   rw[if_pos rfl]
   exact⟨.inl ⟨rfl,ho,by simp⟩,rfl,fun r hr=>.inl hr,fun h=>⟨rfl,h⟩⟩
  ·rw[if_neg h0]
   have hp:1≤bs.length:=by
    rcases bs with _|⟨x,bs⟩
    ·exact absurd rfl h0
    ·simp
   cases hoff:off st with
   |true=>exact⟨.inr ⟨rfl,rfl⟩,rfl,fun r hr=>.inl hr,fun h=>by simp[off,h]at hoff⟩
   |false=>
    have ih:=azm n (push (cO st) ⟨3,false,0,bs.take 64⟩) (bs.drop 64) (by rw[List.length_drop];omega) ho
    rw[auq,List.append_assoc,List.take_append_drop]at ih
    obtain⟨h1,h2,h3,h4⟩:=ih
    refine⟨h1,h2,fun r hr=>?_,h4⟩
    rcases h3 r hr with h|h
    ·rcases List.mem_append.1 (show r∈st.wait++[_]from h)with h|h
     ·exact .inl h
     ·rw[List.mem_singleton.1 h];exact .inr rfl
    ·exact .inr h
theorem awt {st:Ds}(bs:List Int)(ho:st.on=true):write st 3 bs=wrt 3 bs.length st bs:=by
 unfold write
 rw[if_neg (by simp[ho]),if_neg (by decide)]
 rfl
structure Q (b0:List Int) (st:Ds):Prop where
 su:b0<+:st.sure 3
 cu:∀r∈st.wait,r.file=3→r.cut=true→r.to=b0.length
theorem amg {st:Ds}{s:Se}(ho:st.on=true):((wr2 st s).1=0∧(wr2 st s).2.on=true∧(wr2 st s).2.sure 3=hl st++sec s∧(wr2 st s).2.wait=[]∨(wr2 st s).1=6∧(wr2 st s).2.on=false)∧(st.has=false→(wr2 st s).1=0∧(wr2 st s).2.has=false):=by
 obtain⟨h1,h2,h3,h4⟩:=azm (sec s).length st (sec s) (Nat.le_refl _) ho
 unfold wr2
 rw[awt _ ho]
 rcases h1 with⟨g1,g2,g3⟩|⟨g1,g2⟩
 ·rw[if_neg (by simp[g1])]
  cases hoff:off (wrt 3 (sec s).length st (sec s)).2 with
  |true=>
   have e:sync (wrt 3 (sec s).length st (sec s)).2=(6,iK (wrt 3 (sec s).length st (sec s)).2):=by
    unfold sync
    rw[if_neg (by simp[g2]),if_pos hoff]
   rw[e,if_pos (by simp)]
   refine⟨.inr ⟨rfl,rfl⟩,fun hh=>?_⟩
   have:=(h4 hh).2
   simp[off,this]at hoff
  |false=>
   have e:sync (wrt 3 (sec s).length st (sec s)).2=(0,flush (cO (wrt 3 (sec s).length st (sec s)).2)):=by
    unfold sync
    rw[if_neg (by simp[g2]),if_neg (by simp[hoff])]
   rw[e,if_neg (by simp)]
   refine⟨.inl ⟨rfl,g2,?_,rfl⟩,fun hh=>⟨rfl,(h4 hh).2⟩⟩
   rw[←g3]
   show dof _ _ 3=_
   rw[←eX]
   rfl
 ·rw[if_pos (by simp[g1])]
  exact⟨.inr ⟨rfl,g2⟩,fun hh=>by rw[(h4 hh).1]at g1;simp at g1⟩
theorem aBW {st:Ds}{s:Se}{b0:List Int}(ho:st.on=true)(hc:aJ s=0)(hb:b0<+:hl st):
  ((wrS st b0.length s).1=0∧(wrS st b0.length s).2.on=true∧(wrS st b0.length s).2.sure 3=b0++sec s∧(wrS st b0.length s).2.wait=[]∨(wrS st b0.length s).1=6∧(wrS st b0.length s).2.on=false)∧
   (st.has=false→(wrS st b0.length s).1=0∧(wrS st b0.length s).2.has=false):=by
 have hle:=hb.length_le
 rw[ayL ho hc (by omega)]
 unfold wr1
 by_cases hlt:(b0.length:Int)<(hl st).length
 ·rw[if_pos hlt]
  have hh:hl (push (cO st) ⟨3,true,b0.length,[]⟩)=b0:=by
   rw[av0]
   exact(List.prefix_iff_eq_take.1 hb).symm
  cases hoff:off st with
  |true=>
   have e:bg st 3 b0.length=(6,iK st):=by
    unfold bg
    rw[if_neg (by simp[ho]),if_neg (by decide),if_neg ?_,if_pos hoff]
    unfold hl at hlt
    simp
    omega
   rw[e,if_pos (by simp)]
   exact⟨.inr ⟨rfl,rfl⟩,fun h=>by simp[off,h]at hoff⟩
  |false=>
   have e:bg st 3 b0.length=(0,push (cO st) ⟨3,true,b0.length,[]⟩):=by
    unfold bg
    rw[if_neg (by simp[ho]),if_neg (by decide),if_neg ?_,if_neg (by simp[hoff])]
    ·rfl
    ·unfold hl at hlt
     simp
     omega
   rw[e,if_neg (by simp)]
   have:=amg (st:=push (cO st) ⟨3,true,b0.length,[]⟩) (s:=s) ho
   rw[hh]at this
   exact this
 ·rw[if_neg hlt]
  have e:b0=hl st:=hb.eq_of_length (by omega)
  have:=amg (s:=s) ho
  rw[←e]at this
  exact this
end Orp
end Go.Proofs.YtpifdeoepppadaaGreatDoor
namespace Go.Proofs.YtpifdeoepppadaaGreatDoor
set_option linter.unusedVariables false
namespace Wl
open Dm
def hld (st:Ds):List Int:=hold 0 (st.sure 0) st.wait
def App (l:List Rw):Prop:=∀r∈l,r.cut=false
theorem qF:App []:=fun r h=>by simp at h
theorem nY {l:List Rw}{r:Rw}(h:App l)(hr:r.cut=false):App (l++[r]):=fun x hx=>by
 rcases List.mem_append.1 hx with hx|hx
 ·exact h x hx
 ·rw[List.mem_singleton.1 hx];exact hr
theorem dU:∀(l:List Rw) (b:List Int) (f:Nat),App l→b<+:hold f b l
 |[],b,_,_=>List.prefix_rfl
 |r::l,b,f,h=>by
  have ih:=dU l (if r.file=f then iC b r else b) f (fun x hx=>h x (List.mem_cons_of_mem _ hx))
  refine List.IsPrefix.trans ?_ ih
  split
  ·unfold iC
   rw[h r List.mem_cons_self]
   exact List.prefix_append _ _
  ·exact List.prefix_rfl
theorem ajg {st:Ds}(h:App st.wait)(k t:Nat):st.sure 0<+:kept st k t 0∧kept st k t 0<+:hld st:=by
 have h1:App (st.wait.take k):=fun r hr=>h r (List.mem_of_mem_take hr)
 have a1:=dU (st.wait.take k) (st.sure 0) 0 h1
 have e1:hld st=hold 0 (hold 0 (st.sure 0) (st.wait.take k)) (st.wait.drop k):=by
  unfold hld
  rw[←rO,List.take_append_drop]
 unfold kept
 cases hr:st.wait[k]? with
 |none=>
  simp only
  rw[←eX]
  refine⟨a1,?_⟩
  rw[e1]
  exact dU _ _ _ (fun r hr=>h r (List.mem_of_mem_drop hr))
 |some r=>
  have hlt:=(List.getElem?_eq_some_iff.1 hr).1
  have hrr:=(List.getElem?_eq_some_iff.1 hr).2
  have hc:=h r (List.mem_of_getElem? hr)
  have e2:st.wait.drop k=r::st.wait.drop (k+1):=by rw[List.drop_eq_getElem_cons hlt,hrr]
  have h2:App (st.wait.drop (k+1)):=fun x hx=>h x (List.mem_of_mem_drop hx)
  simp only[hc,Bool.false_eq_true,if_false]
  rw[e2,hold]at e1
  unfold one
  by_cases hf:r.file=0
  ·rw[hf,sG,←eX]
   rw[if_pos hf]at e1
   have e3:iC (hold 0 (st.sure 0) (st.wait.take k)) ⟨0,false,0,r.bytes.take (min t (r.bytes.length-1))⟩=hold 0 (st.sure 0) (st.wait.take k)++r.bytes.take (min t (r.bytes.length-1)):=rfl
   have e4:iC (hold 0 (st.sure 0) (st.wait.take k)) r=hold 0 (st.sure 0) (st.wait.take k)++r.bytes:=by
    unfold iC
    rw[hc]
    rfl
   rw[e3]
   refine⟨a1.trans (List.prefix_append _ _),?_⟩
   rw[e1,e4]
   refine List.IsPrefix.trans ?_ (dU _ _ _ h2)
   exact(List.prefix_append_right_inj _).2 (List.take_prefix _ _)
  ·rw[sW (fun e=>hf e.symm),←eX]
   rw[if_neg hf]at e1
   refine⟨a1,?_⟩
   rw[e1]
   exact dU _ _ _ h2
end Wl
end Go.Proofs.YtpifdeoepppadaaGreatDoor
namespace Go.Proofs.YtpifdeoepppadaaGreatDoor
set_option linter.unusedVariables false
namespace Wl
open Dm Cm
structure Ws where
 d:Ds
 l:List Cv
 bk:Bool
def bT (d:Ds) (good:Nat):Int×Ds:=
 if (hld d).length=good then(0,d)else if (bg d 0 good).1≠0 then(6,(bg d 0 good).2)else if (sync (bg d 0 good).2).1≠0 then(6,(sync (bg d 0 good).2).2)else(0,(sync (bg d 0 good).2).2)
def ask (s:Ws):Bool:=s.bk|| !s.d.on
def brk (s:Ws):Ws:=⟨s.d,s.l,true⟩
def mQ (s:Ws) (c:Cv):Int×Ws:=
 if ask s then(6,brk s)else if aJ c.e c.n c.l≠0 then(aJ c.e c.n c.l,s)else if c.n-1≠s.l.length∨c.e<lastE 0 s.l then(15,s)
 else if (write s.d 0 (fr c)).1≠0 then((write s.d 0 (fr c)).1,⟨(write s.d 0 (fr c)).2,s.l,true⟩)else(0,⟨(write s.d 0 (fr c)).2,s.l++[c],false⟩)
def ahu (s:Ws):Int×Ws:=if ask s then(6,brk s)else((sync s.d).1,⟨(sync s.d).2,s.l,decide ((sync s.d).1≠0)⟩)
theorem kU {l:List Cv}(h:Cm.Good 0 0 l):lastN 0 l=l.length:=by
 rcases List.eq_nil_or_concat l with rfl|⟨r,c,rfl⟩
 ·rfl
 ·have hk:(r.concat c)[r.length]? =some c:=by rw[List.concat_eq_append];simp
  have:=qK (r.concat c) 0 0 r.length c h hk
  rw[List.concat_eq_append,(dX r c 0 0).2,List.length_append,List.length_singleton]
  omega
theorem mF {l:List Cv}{c:Cv}(h:Cm.Good 0 0 l):Cm.Good 0 0 (l++[c])↔aJ c.e c.n c.l=0∧¬(c.n-1≠l.length∨c.e<lastE 0 l):=by
 rw[dG]
 constructor
 ·rintro⟨_,h1,h2,h3,_⟩
  rw[kU h]at h2
  exact⟨h1,by omega⟩
 ·rintro⟨h1,h2⟩
  refine⟨h,h1,?_,?_,trivial⟩
  ·rw[kU h];omega
  ·omega
theorem aem:∀{l:List Cv} {ep nu:Int},Cm.Good ep nu l→(aW l).length≤433*l.length
 |[],_,_,_=>Nat.le_refl _
 |c::l,ep,nu,h=>by
  have h1:=kR (fq h)
  have h2:=aem (gM.1 h).2
  rw[eY,List.length_append,List.length_cons]
  omega
theorem keeps {st:Ds}{all sure m:List Cv}{k t:Nat}(ha:App st.wait)(h1:Cm.Good 0 0 all)(h2:Cm.Good 0 0 sure)(h3:aW sure<+:st.sure 0)(h4:hld st<+:aW all)(h5:Lg 0 0 (kept st k t 0) m):sure<+:m∧m<+:all:=by
 obtain⟨a,b⟩:=ajg ha k t
 exact⟨uA h2 (h3.trans a) h5,zy h1 (b.trans h4) h5⟩
end Wl
end Go.Proofs.YtpifdeoepppadaaGreatDoor
namespace Go.Proofs.YtpifdeoepppadaaGreatDoor
set_option linter.unusedVariables false
namespace Wl
open Dm Cm
structure Kin (s:Ws) (all sure:List Cv):Prop where
 on:s.d.on=true
 bk:s.bk=false
 l:s.l=all
 good:Cm.Good 0 0 all
 app:App s.d.wait
 hld:hld s.d=aW all
 dur:aW sure<+:s.d.sure 0
 gs:Cm.Good 0 0 sure
structure aAe (d:Ds) (all sure:List Cv):Prop where
 good:Cm.Good 0 0 all
 app:App d.wait
 hld:hld d<+:aW all
 dur:aW sure<+:d.sure 0
 gs:Cm.Good 0 0 sure
end Wl
end Go.Proofs.YtpifdeoepppadaaGreatDoor
