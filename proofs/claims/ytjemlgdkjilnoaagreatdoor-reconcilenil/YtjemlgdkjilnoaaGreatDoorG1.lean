/- Texts of one layer, one behind the other. -/
set_option maxRecDepth 100000
set_option maxHeartbeats 8000000
namespace Go.Proofs.YtjemlgdkjilnoaaGreatDoor.Vm
def enc (x:Nat):List Int:=if _h:x<128 then [(x:Int)]else((x % 128+128:Nat):Int)::enc (x / 128)
def sz (x:Nat):Nat:=(enc x).length
theorem mr {x:Nat}(h:x<128):enc x=[(x:Int)]:=by rw[enc,dif_pos h]
theorem qc {x:Nat}(h:¬x<128):enc x=((x % 128+128:Nat):Int)::enc (x / 128):=by rw[enc,dif_neg h]
theorem iF {x:Nat}(h:x<128):sz x=1:=by unfold sz;rw[mr h];rfl
theorem adB {x:Nat}(h:¬x<128):sz x=sz (x / 128)+1:=by unfold sz;rw[qc h];rfl
theorem sW (x:Nat):1≤sz x:=by
 by_cases h:x<128
 ·rw[iF h];omega
 ·rw[adB h];omega
theorem nK:∀(k x:Nat),x<128 ^ (k+1)→sz x≤k+1:=by
 intro k
 induction k with
 |zero=>intro x h;rw[iF (by simpa using h)];omega
 |succ k ih=>
  intro x h
  by_cases hx:x<128
  ·rw[iF hx];omega
  ·rw[adB hx]
   have:x / 128<128 ^ (k+1):=by
    rw[Nat.div_lt_iff_lt_mul (by omega)]
    rw[Nat.pow_succ]at h
    exact h
   have:=ih _ this
   omega
theorem kI {x:Nat}(h:x<18446744073709551616):sz x≤10:=
 nK 9 x (Nat.lt_of_lt_of_le h (by decide))
theorem jC {a b:Int}{l m:List Int}:a::l<+:b::m↔a=b∧l<+:m:=List.cons_prefix_cons
theorem pre_nil (y:Nat):¬enc y<+:[]:=by
 intro h
 rw[List.prefix_nil]at h
 have:=sW y
 unfold sz at this
 rw[h]at this
 simp at this
theorem aaX {y:Nat}{c:Int}{rest:List Int}(hc:c<128):enc y<+:c::rest↔(y:Int)=c:=by
 by_cases h:y<128
 ·rw[mr h,jC]
  simp
 ·rw[qc h,jC]
  constructor
  ·intro h;omega
  ·intro h;omega
theorem akQ {y:Nat}{c:Int}{rest:List Int}(hc:128≤c)(hc2:c<256):enc y<+:c::rest↔∃y',1≤y'∧y=(c-128).toNat+128*y'∧enc y'<+:rest:=by
 by_cases h:y<128
 ·rw[mr h,jC]
  constructor
  ·intro h;omega
  ·rintro⟨y',h1,h2,_⟩;omega
 ·rw[qc h,jC]
  constructor
  ·rintro⟨h1,h2⟩
   exact⟨y / 128,by omega,by omega,h2⟩
  ·rintro⟨y',h1,h2,h3⟩
   have:y / 128=y':=by omega
   rw[this]
   exact⟨by omega,h3⟩
theorem bJ:∀(bs:List Int) (x y:Nat),enc x<+:bs→enc y<+:bs→x=y
 |[],x,_,hx,_=>absurd hx (pre_nil x)
 |c::rest,x,y,hx,hy=>by
  by_cases hx1:x<128
  ·rw[mr hx1,jC]at hx
   rw[aaX (by omega)]at hy
   omega
  ·by_cases hy1:y<128
   ·rw[mr hy1,jC]at hy
    rw[aaX (by omega)]at hx
    omega
   ·rw[qc hx1,jC]at hx
    rw[qc hy1,jC]at hy
    have:=bJ rest _ _ hx.2 hy.2
    omega
def Res (bs:List Int) (x n e:Int):Prop:=
 (∃u:Nat,u<18446744073709551616∧enc u<+:bs∧x=u∧n=sz u∧e=0)∨((∀u:Nat,u<18446744073709551616→¬enc u<+:bs)∧x=0∧n=0∧e=5)
theorem auU (bs:List Int):∃x n e,Res bs x n e:=by
 by_cases h:∃u:Nat,u<18446744073709551616∧enc u<+:bs
 ·obtain⟨u,h1,h2⟩:=h
  exact⟨u,sz u,0,.inl ⟨u,h1,h2,rfl,rfl,rfl⟩⟩
 ·exact⟨0,0,5,.inr ⟨fun u h1 h2=>h ⟨u,h1,h2⟩,rfl,rfl,rfl⟩⟩
theorem rT {bs:List Int}{x n e:Int}(h:Res bs x n e)(hb:∀u:Nat,u<18446744073709551616→¬enc u<+:bs):x=0∧n=0∧e=5:=by
 rcases h with⟨u,h1,h2,_⟩|⟨_,h⟩
 ·exact absurd h2 (hb u h1)
 ·exact h
theorem uR {bs:List Int}{x n e:Int}(h:Res bs x n e){u:Nat}(h1:u<18446744073709551616)(h2:enc u<+:bs):x=u∧n=sz u∧e=0:=by
 rcases h with⟨v,h3,h4,h⟩|⟨hb,_⟩
 ·have:=bJ bs u v h2 h4
  subst this
  exact h
 ·exact absurd h2 (hb u h1)
theorem mh {bs:List Int}{x n e:Int}(h:Res bs x n e):0≤x∧x<18446744073709551616∧0≤n∧n≤10∧n≤bs.length∧(e=0∨e=5):=by
 rcases h with⟨u,h1,h2,rfl,rfl,rfl⟩|⟨_,rfl,rfl,rfl⟩
 ·have:=kI h1
  have h3:=h2.length_le
  unfold sz at*
  omega
 ·omega
def Inv (bs:List Int) (n acc:Nat):Prop:=
 acc<128 ^ n∧(∀x,enc x<+:bs↔∃y,(1≤y∨n=0)∧x=acc+y*128 ^ n∧enc y<+:bs.drop n)∧(∀y,(1≤y∨n=0)→sz (acc+y*128 ^ n)=n+sz y)∧∀y,(1≤y∨n=0)→enc (acc+y*128 ^ n)=bs.take n++enc y
theorem alI (bs:List Int):Inv bs 0 0:=by
 refine⟨by simp,fun x=>?_,fun y _=>by simp,fun y _=>by simp⟩
 simp
theorem anN {bs:List Int}{n acc:Nat}{c:Int}(h:Inv bs n acc)(hn:n<bs.length)(hc:bs.getD n 0=c)(h1:128≤c)(h2:c<256):Inv bs (n+1) (acc+(c % 128).toNat*128 ^ n):=by
 obtain⟨ha,hx,hs,he⟩:=h
 have hd:bs.drop n=c::bs.drop (n+1):=by
  rw[List.drop_eq_getElem_cons hn]
  simp[hn]at hc
  rw[hc]
 have hp:128 ^ (n+1)=128*128 ^ n:=by rw[Nat.pow_succ,Nat.mul_comm]
 have e0:(c-128).toNat=(c % 128).toNat:=by omega
 have hl:(c % 128).toNat≤127:=by omega
 have key:∀y':Nat,acc+((c % 128).toNat+128*y')*128 ^ n=acc+(c % 128).toNat*128 ^ n+y'*128 ^ (n+1):=by
  intro y'
  rw[hp,Nat.add_mul,Nat.mul_comm 128 y',Nat.mul_assoc,Nat.add_assoc]
 refine⟨?_,fun x=>?_,fun y hy=>?_,fun y hy=>?_⟩
 ·rw[hp]
  have:(c % 128).toNat*128 ^ n≤127*128 ^ n:=Nat.mul_le_mul_right _ hl
  omega
 ·rw[hx x]
  constructor
  ·rintro⟨y,hy,rfl,hpre⟩
   rw[hd,akQ h1 h2]at hpre
   obtain⟨y',g1,g2,g3⟩:=hpre
   refine⟨y',.inl g1,?_,g3⟩
   rw[g2,e0,key]
  ·rintro⟨y',hy,rfl,hpre⟩
   have g1:1≤y':=by omega
   refine⟨(c % 128).toNat+128*y',.inl (by omega),(key y').symm,?_⟩
   rw[hd,akQ h1 h2]
   exact⟨y',g1,by omega,hpre⟩
 ·have g1:1≤y:=by omega
  rw[←key,hs _ (.inl (by omega)),adB (by omega)]
  have:((c % 128).toNat+128*y) / 128=y:=by omega
  rw[this]
  omega
 ·have g1:1≤y:=by omega
  rw[←key,he _ (.inl (by omega)),qc (by omega)]
  have e1:((c % 128).toNat+128*y) / 128=y:=by omega
  have e2:((((c % 128).toNat+128*y) % 128+128:Nat):Int)=c:=by omega
  have e3:bs[n]=c:=by simpa[hn]using hc
  rw[e1,e2,List.take_succ_eq_append_getElem hn,e3]
  simp
theorem aj0 {bs:List Int}{n acc:Nat}(h:Inv bs n acc)(hn:bs.length≤n):∀u:Nat,u<18446744073709551616→¬enc u<+:bs:=by
 intro u _ hu
 obtain⟨y,_,_,hp⟩:=(h.2.1 u).1 hu
 rw[List.drop_eq_nil_of_le hn]at hp
 exact pre_nil y hp
theorem an8 {bs:List Int}{acc:Nat}{c:Int}(h:Inv bs 9 acc)(hn:9<bs.length)(hc:bs.getD 9 0=c)(h1:1<c)(h2:c<256):∀u:Nat,u<18446744073709551616→¬enc u<+:bs:=by
 intro u hlt hu
 obtain⟨y,_,rfl,hp⟩:=(h.2.1 u).1 hu
 have hd:bs.drop 9=c::bs.drop 10:=by
  rw[List.drop_eq_getElem_cons hn]
  simp[hn]at hc
  rw[hc]
 rw[hd]at hp
 have hy:y≤1:=by
  have:(128:Nat) ^ 9=9223372036854775808:=by decide
  omega
 rw[mr (by omega),jC]at hp
 omega
theorem inv_zero {bs:List Int}{n acc:Nat}(h:Inv bs n acc)(hn:n<bs.length)(hc:bs.getD n 0=0)(h1:1≤n):∀u:Nat,u<18446744073709551616→¬enc u<+:bs:=by
 intro u _ hu
 obtain⟨y,hy,rfl,hp⟩:=(h.2.1 u).1 hu
 have hd:bs.drop n=0::bs.drop (n+1):=by
  rw[List.drop_eq_getElem_cons hn]
  simp[hn]at hc
  rw[hc]
 rw[hd,aaX (by omega)]at hp
 omega
theorem ach {bs:List Int}{n acc:Nat}{c:Int}(h:Inv bs n acc)(hn:n<bs.length)(hc:bs.getD n 0=c)(h0:0≤c)(h1:c<128)(h2:1≤c∨n=0):
  enc (acc+(c % 128).toNat*128 ^ n)<+:bs∧sz (acc+(c % 128).toNat*128 ^ n)=n+1:=by
 have hd:bs.drop n=c::bs.drop (n+1):=by
  rw[List.drop_eq_getElem_cons hn]
  simp[hn]at hc
  rw[hc]
 have e:(c % 128).toNat=c.toNat:=by omega
 rw[e]
 refine⟨(h.2.1 _).2 ⟨c.toNat,by omega,rfl,?_⟩,?_⟩
 ·rw[hd,aaX h1];omega
 ·rw[h.2.2.1 _ (by omega),iF (by omega)]
theorem aoh {bs:List Int}{n acc:Nat}{c:Int}(h:Inv bs n acc)(hn:n≤8)(_h0:0≤c):acc+(c % 128).toNat*128 ^ n<18446744073709551616:=by
 have hp:128 ^ n≤128 ^ 8:=Nat.pow_le_pow_right (by omega) hn
 have h8:(128:Nat) ^ 8=72057594037927936:=by decide
 have:(c % 128).toNat*128 ^ n≤127*128 ^ n:=Nat.mul_le_mul_right _ (by omega)
 have:=h.1
 omega
theorem amg {bs:List Int}{acc:Nat}{c:Int}(h:Inv bs 9 acc)(h0:0≤c)(h1:c≤1):acc+(c % 128).toNat*128 ^ 9<18446744073709551616:=by
 have h8:(128:Nat) ^ 9=9223372036854775808:=by decide
 have:=h.1
 omega
end Go.Proofs.YtjemlgdkjilnoaaGreatDoor.Vm
namespace Go.Proofs.YtjemlgdkjilnoaaGreatDoor.Om
open Vm
def ints (l:List UInt8):List Int:=l.map fun c=>(c.toNat:Int)
theorem ja (l:List UInt8):(ints l).length=l.length:=by simp[ints]
theorem zH:∀{a b:List UInt8},ints a=ints b→a=b
 |[],[],_=>rfl
 |[],_::_,h=>by simp[ints]at h
 |_::_,[],h=>by simp[ints]at h
 |x::a,y::b,h=>by
  simp only[ints,List.map_cons,List.cons.injEq]at h
  have h1:x.toNat=y.toNat:=by omega
  rw[UInt8.toNat_inj.1 h1,zH (a:=a) (b:=b) h.2]
def iK (l:List Int):List UInt8:=l.map fun z=>UInt8.ofNat z.toNat
theorem acQ {l:List Int}(h:∀z∈l,0≤z∧z<256):ints (iK l)=l:=by
 simp only[iK,ints,List.map_map]
 conv=>rhs;rw[←List.map_id l]
 apply List.map_congr_left
 intro z hz
 have:=h z hz
 simp
 omega
theorem jS (l:List Int):(iK l).length=l.length:=by simp[iK]
def chk (p:Bool) (k v:List UInt8):Int:=if 1≤k.length∧k.length≤16∧v.length≤32∧(p=true∨v=[])then 0 else 2
theorem ib {p:Bool}{k v:List UInt8}(h:1≤k.length∧k.length≤16∧v.length≤32∧(p=true∨v=[])):chk p k v=0:=by unfold chk;rw[if_pos h]
theorem iD {p:Bool}{k v:List UInt8}(h:¬(1≤k.length∧k.length≤16∧v.length≤32∧(p=true∨v=[]))):chk p k v=2:=by unfold chk;rw[if_neg h]
theorem iJ {p:Bool}{k v:List UInt8}(h:chk p k v=0):1≤k.length∧k.length≤16∧v.length≤32∧(p=true∨v=[]):=by
 unfold chk at h
 split at h
 ·assumption
 ·simp at h
theorem yH (p:Bool)(k v:List UInt8):chk p k v=0∨chk p k v=2:=by unfold chk;split<;>simp
def cnt (s:List UInt8):List Int:=enc s.length++ints s
def dN (p:Bool) (k v:List UInt8):List Int:=(if p then 1 else 0)::(cnt k++if p then cnt v else [])
theorem lK (s:List UInt8):(cnt s).length=sz s.length+s.length:=by simp[cnt,ja,sz]
theorem afi {s:List UInt8}(h:s.length≤32):(cnt s).length≤33:=by
 rw[lK,iF (by omega)];omega
theorem uD {p:Bool}{k v:List UInt8}(h:chk p k v=0):(dN p k v).length≤51:=by
 have h:=iJ h
 have h1:=lK k
 have h2:=lK v
 rw[iF (by omega)]at h1 h2
 unfold dN
 cases p<;>simp<;>omega
theorem aae {s t:List UInt8}{bs:List Int}(h:cnt s<+:bs)(k:cnt t<+:bs):s=t:=by
 have h1:enc s.length<+:bs:=(List.prefix_append _ _).trans h
 have k1:enc t.length<+:bs:=(List.prefix_append _ _).trans k
 have e:=bJ bs _ _ h1 k1
 have hl:(cnt s).length=(cnt t).length:=by rw[lK,lK,e]
 have:cnt s=cnt t:=by
  rw[List.prefix_iff_eq_take]at h k
  rw[h,k,hl]
 unfold cnt at this
 rw[e]at this
 exact zH (List.append_cancel_left this)
def oK (bs:List Int) (most:Nat) (s:List UInt8) (n:Nat) (e:Int):Prop:=
 (e=0∧s.length≤most∧cnt s<+:bs∧n=(cnt s).length)∨(e=5∧s=[]∧n=0∧∀t:List UInt8,t.length≤most→¬cnt t<+:bs)
theorem aiw {p q:Bool}{k v l u:List UInt8}{bs:List Int}(h:dN p k v<+:bs)(g:dN q l u<+:bs)(hp:chk p k v=0)(hq:chk q l u=0):p=q∧k=l∧v=u:=by
 cases bs with
 |nil=>simp[dN]at h
 |cons b bs=>
  unfold dN at h g
  rw[List.cons_prefix_cons]at h g
  have e:p=q:=by
   have:=h.1.trans g.1.symm
   clear h g hp hq
   cases p<;>cases q<;>simp_all
  subst e
  have hk:k=l:=aae ((List.prefix_append _ _).trans h.2) ((List.prefix_append _ _).trans g.2)
  subst hk
  refine⟨rfl,rfl,?_⟩
  cases p
  ·have h1:=(iJ hp).2.2.2
   have h2:=(iJ hq).2.2.2
   simp at h1 h2
   rw[h1,h2]
  ·obtain⟨r,hr⟩:=h.2
   obtain⟨r',hr'⟩:=g.2
   simp only[if_true]at hr hr'
   rw[List.append_assoc]at hr hr'
   have:=List.append_cancel_left (hr.trans hr'.symm)
   exact aae (bs:=cnt v++r) (List.prefix_append _ _) (by rw[this];exact List.prefix_append _ _)
def aeC (bs:List Int) (p:Bool) (k v:List UInt8):List Int:=if chk p k v=0 then bs++dN p k v else []
theorem ahc {bs:List Int}{p:Bool}{k v:List UInt8}(h:chk p k v=0):aeC bs p k v=bs++dN p k v:=by unfold aeC;rw[if_pos h]
theorem arq {bs:List Int}{p:Bool}{k v:List UInt8}(h:chk p k v=2):aeC bs p k v=[]:=by unfold aeC;rw[if_neg (by omega)]
end Go.Proofs.YtjemlgdkjilnoaaGreatDoor.Om
namespace Go.Proofs.YtjemlgdkjilnoaaGreatDoor.Bm
open Vm Om
structure Ov where
 p:Bool
 k:ByteArray
 v:ByteArray
def Ov.kl (o:Ov):List UInt8:=o.k.data.toList
def Ov.vl (o:Ov):List UInt8:=o.v.data.toList
def Ov.c (o:Ov):Int:=chk o.p o.kl o.vl
def Ov.bit (o:Ov):Nat:=if o.p then 1 else 0
theorem yM {a b:ByteArray}(h:a.data.toList=b.data.toList):a=b:=by
 obtain⟨⟨a⟩⟩:=a
 obtain⟨⟨b⟩⟩:=b
 simp at h
 rw[h]
theorem Ov.eq {o q:Ov}(h1:o.p=q.p)(h2:o.kl=q.kl)(h3:o.vl=q.vl):o=q:=by
 obtain⟨p,k,v⟩:=o
 obtain⟨p',k',v'⟩:=q
 have e2:k=k':=yM h2
 have e3:v=v':=yM h3
 have e1:p=p':=h1
 rw[e1,e2,e3]
def com:List UInt8→List UInt8→Nat
 |x::a,y::b=>if x=y then com a b+1 else 0
 |_,_=>0
theorem xL:∀(a b:List UInt8),com a b≤a.length∧com a b≤b.length∧b.take (com a b)=a.take (com a b)
 |[],b=>by simp[com]
 |x::a,[]=>by simp[com]
 |x::a,y::b=>by
  have:=xL a b
  unfold com
  split
  ·rename_i h
   subst h
   simp[this.1,this.2.1,this.2.2]
  ·simp
theorem abr:∀(a b:List UInt8) (n:Nat),n≤a.length→n≤b.length→a.take n=b.take n→(n=a.length∨n=b.length∨a[n]?≠b[n]?)→com a b=n
 |[],b,n,h1,h2,h3,h4=>by simp at h1;subst h1;simp[com]
 |x::a,[],n,h1,h2,h3,h4=>by simp at h2;subst h2;simp[com]
 |x::a,y::b,0,h1,h2,h3,h4=>by
  simp at h4
  unfold com
  rw[if_neg h4]
 |x::a,y::b,n+1,h1,h2,h3,h4=>by
  simp at h1 h2 h3 h4
  obtain⟨rfl,h3⟩:=h3
  unfold com
  rw[if_pos rfl,abr a b n h1 h2 h3 h4]
def first:List Ov→Int
 |[]=>0
 |o::r=>if o.c=0 then first r else 2
theorem xS:∀(l:List Ov),first l=0∨first l=2
 |[]=>.inl rfl
 |o::r=>by unfold first;split;exact xS r;exact .inr rfl
theorem uF:∀{l:List Ov},first l=0→∀o∈l,o.c=0
 |[],_,o,ho=>by simp at ho
 |q::r,h,o,ho=>by
  unfold first at h
  split at h
  ·rcases List.mem_cons.1 ho with rfl|ho
   ·assumption
   ·exact uF h o ho
  ·simp at h
theorem rG:∀{l:List Ov},(∀o∈l,o.c=0)→first l=0
 |[],_=>rfl
 |q::r,h=>by
  unfold first
  rw[if_pos (h q (by simp)),rG fun o ho=>h o (by simp[ho])]
theorem adj {l:List Ov}{o:Ov}(ho:o∈l)(h:o.c≠0):first l=2:=by
 rcases xS l with h'|h'
 ·exact absurd (uF h' o ho) h
 ·exact h'
def dY (l:List Ov):Int:=if l.length=0 then 2 else if 8<l.length then 3 else first l
theorem akf {l:List Ov}(h:8<l.length):dY l=3:=by unfold dY;rw[if_neg (by omega),if_pos h]
theorem aoA {l:List Ov}(h:l.length≠0)(h':¬8<l.length):dY l=first l:=by unfold dY;rw[if_neg h,if_neg h']
theorem dI {l:List Ov}(h:dY l=0):1≤l.length∧l.length≤8∧∀o∈l,o.c=0:=by
 unfold dY at h
 split at h
 ·simp at h
 ·split at h
  ·simp at h
  ·exact⟨by omega,by omega,uF h⟩
theorem ak3 (l:List Ov):dY l=0∨dY l=2∨dY l=3:=by
 unfold dY
 split
 ·simp
 ·split
  ·simp
  ·rcases xS l with h|h<;>simp[h]
def mE (kind sh:Nat) (rest:List UInt8):List Int:=enc kind++(enc sh++(enc rest.length++ints rest))
def fO (ah:List UInt8) (o:Ov):List Int:=mE o.bit (com ah o.kl) (o.kl.drop (com ah o.kl))++if o.p then cnt o.vl else []
def eu (ah:List UInt8):List Ov→List Int
 |[]=>[]
 |o::r=>fO ah o++eu o.kl r
def eB (l:List Ov):List Int:=enc l.length++eu [] l
def afZ (bs:List Int) (l:List Ov):List Int:=if dY l=0 then bs++eB l else []
theorem ahp {bs:List Int}{l:List Ov}(h:dY l=0):afZ bs l=bs++eB l:=by unfold afZ;rw[if_pos h]
theorem ar9 {bs:List Int}{l:List Ov}(h:dY l≠0):afZ bs l=[]:=by unfold afZ;rw[if_neg h]
theorem bq {A X bs:List Int}:A++X<+:bs↔A<+:bs∧X<+:bs.drop A.length:=by
 constructor
 ·intro h
  refine⟨(List.prefix_append _ _).trans h,?_⟩
  obtain⟨r,rfl⟩:=h
  rw[List.append_assoc,List.drop_left]
  exact List.prefix_append _ _
 ·rintro⟨⟨r,rfl⟩,h⟩
  rw[List.drop_left]at h
  exact(List.prefix_append_right_inj _).2 h
theorem anD {s t:List UInt8}{bs:List Int}(h:ints s<+:bs)(k:ints t<+:bs)(hl:s.length=t.length):s=t:=by
 rw[List.prefix_iff_eq_take]at h k
 apply zH
 rw[h,k,ja,ja,hl]
theorem wL {a b c d:Nat}{r s:List UInt8}{bs:List Int}(h:mE a b r<+:bs)(g:mE c d s<+:bs):a=c∧b=d∧r=s:=by
 unfold mE at h g
 rw[bq,bq,bq]at h g
 obtain⟨h1,h2,h3,h4⟩:=h
 obtain⟨g1,g2,g3,g4⟩:=g
 obtain rfl:=bJ _ _ _ h1 g1
 obtain rfl:=bJ _ _ _ h2 g2
 have e:=bJ _ _ _ h3 g3
 rw[e]at h4
 exact⟨rfl,rfl,anD h4 g4 e⟩
def Ov.shape (o:Ov):Prop:=o.p=true∨o.vl=[]
theorem Ov.amI {o:Ov}(h:o.c=0):o.shape:=(iJ h).2.2.2
theorem aes (ah:List UInt8)(k:List UInt8):ah.take (com ah k)++k.drop (com ah k)=k:=by
 rw[←(xL ah k).2.2,List.take_append_drop]
theorem atL {o q:Ov}(h:o.bit=q.bit):o.p=q.p:=by
 unfold Ov.bit at h
 cases h1:o.p<;>cases h2:q.p<;>simp_all
theorem akT {ah:List UInt8}{o q:Ov}{bs:List Int}(h:fO ah o<+:bs)(g:fO ah q<+:bs)(ho:o.shape)(hq:q.shape):o=q:=by
 unfold fO at h g
 rw[bq]at h g
 obtain⟨h1,h2⟩:=h
 obtain⟨g1,g2⟩:=g
 obtain⟨e1,e2,e3⟩:=wL h1 g1
 have ek:o.kl=q.kl:=by
  rw[←aes ah o.kl,←aes ah q.kl,e2]
  rw[e2]at e3
  rw[e3]
 have ep:=atL e1
 refine Ov.eq ep ek ?_
 have el:o.kl.length=q.kl.length:=by rw[ek]
 rw[e1,ek]at h2
 cases hp:o.p
 ·have:=ho
  have:=hq
  unfold Ov.shape at*
  rw[←ep]at*
  simp_all
 ·rw[hp]at h2
  rw[←ep,hp]at g2
  simp only[if_true]at h2 g2
  exact aae h2 g2
theorem wX:∀(ah:List UInt8) (l m:List Ov) (bs:List Int),l.length=m.length→(∀o∈l,o.shape)→(∀o∈m,o.shape)→eu ah l<+:bs→eu ah m<+:bs→l=m
 |_,[],[],_,_,_,_,_,_=>rfl
 |_,[],_::_,_,h,_,_,_,_=>by simp at h
 |_,_::_,[],_,h,_,_,_,_=>by simp at h
 |ah,o::l,q::m,bs,hl,h1,h2,h,g=>by
  unfold eu at h g
  rw[bq]at h g
  obtain rfl:=akT h.1 g.1 (h1 o (by simp)) (h2 q (by simp))
  rw[wX o.kl l m _ (by simpa using hl) (fun x hx=>h1 x (by simp[hx])) (fun x hx=>h2 x (by simp[hx])) h.2 g.2]
theorem vV {l m:List Ov}{bs:List Int}(h:eB l<+:bs)(g:eB m<+:bs)(hl:∀o∈l,o.shape)(hm:∀o∈m,o.shape):l=m:=by
 unfold eB at h g
 rw[bq]at h g
 have e:=bJ _ _ _ h.1 g.1
 rw[e]at h
 exact wX [] l m _ e hl hm h.2 g.2
def ay (ah:List UInt8):List Ov→List UInt8
 |[]=>ah
 |o::r=>ay o.kl r
theorem j6:∀(ah:List UInt8) (l:List Ov) (o:Ov),ay ah (l++[o])=o.kl
 |_,[],_=>rfl
 |_,q::l,o=>j6 q.kl l o
theorem rC:∀(ah:List UInt8) (l:List Ov) (o:Ov),eu ah (l++[o])=eu ah l++fO (ay ah l) o
 |_,[],_=>by simp[eu,ay]
 |ah,q::l,o=>by
  show fO ah q++eu q.kl (l++[o])=fO ah q++eu q.kl l++fO (ay q.kl l) o
  rw[rC q.kl l o,List.append_assoc]
theorem afx:∀(ah:List UInt8) (l m:List Ov),eu ah (l++m)=eu ah l++eu (ay ah l) m
 |_,[],_=>rfl
 |ah,q::l,m=>by
  show fO ah q++eu q.kl (l++m)=fO ah q++eu q.kl l++eu (ay q.kl l) m
  rw[afx q.kl l m,List.append_assoc]
def aey (bs:List Int) (l:List Ov) (n e:Int):Prop:=
 (e=0∧dY l=0∧eB l<+:bs∧n=(eB l).length)∨(e=5∧l=[]∧n=0∧∀m,dY m=0→¬eB m<+:bs)
theorem shapes {l:List Ov}(h:dY l=0):∀o∈l,o.shape:=fun o ho=>Ov.amI ((dI h).2.2 o ho)
def SS (bs:List Int) (most a:Nat) (bad:Bool) (u a':Nat) (bad':Bool):Prop:=
 (bad=true∧bad'=true∧u=0∧a'=a)∨(bad=false∧bad'=true∧u=0∧a'=a∧∀x:Nat,x≤most→¬enc x<+:bs.drop a)∨(bad=false∧bad'=false∧u≤most∧enc u<+:bs.drop a∧a'=a+sz u)
def BS (bs:List Int) (n a:Nat) (bad:Bool) (zs:List Int) (a':Nat) (bad':Bool):Prop:=
 ((bad=true∨bs.length-a<n)∧bad'=true∧zs=[]∧a'=a)∨(bad=false∧n≤bs.length-a∧bad'=false∧zs=(bs.drop a).take n∧a'=a+n)
theorem uI {bs:List Int}{most a u a':Nat}{bad bad':Bool}(h:SS bs most a bad u a' bad'):u≤most:=by
 rcases h with⟨_,_,h,_⟩|⟨_,_,h,_⟩|⟨_,_,h,_⟩<;>omega
theorem adE {bs zs:List Int}{n a a':Nat}{bad bad':Bool}(h:BS bs n a bad zs a' bad'):zs.length≤n:=by
 rcases h with⟨_,_,h,_⟩|⟨_,_,_,h,_⟩
 ·simp[h]
 ·rw[h,List.length_take];omega
theorem rY {bs:List Int}{most a u a':Nat}{bad bad':Bool}(h:SS bs most a bad u a' bad')(hb:bad=true):bad'=true:=by
 rcases h with⟨_,h,_⟩|⟨_,h,_⟩|⟨h,_⟩
 ·exact h
 ·exact h
 ·rw[hb]at h;simp at h
theorem rX {bs zs:List Int}{n a a':Nat}{bad bad':Bool}(h:BS bs n a bad zs a' bad')(hb:bad=true):bad'=true:=by
 rcases h with⟨_,h,_⟩|⟨h,_⟩
 ·exact h
 ·rw[hb]at h;simp at h
def No (bs:List Int) (a:Nat) (ah:List UInt8):Prop:=∀q:Ov,q.c=0→¬fO ah q<+:bs.drop a
theorem pJ {ah:List UInt8}{q:Ov}{bs:List Int}{a:Nat}(h:fO ah q<+:bs.drop a):
  enc q.bit<+:bs.drop a∧enc (com ah q.kl)<+:bs.drop (a+sz q.bit)∧enc (q.kl.length-com ah q.kl)<+:bs.drop (a+sz q.bit+sz (com ah q.kl))∧
  ints (q.kl.drop (com ah q.kl))<+:bs.drop (a+sz q.bit+sz (com ah q.kl)+sz (q.kl.length-com ah q.kl)):=by
 unfold fO mE at h
 rw[bq,bq,bq,bq]at h
 obtain⟨⟨h1,h2,h3,h4⟩,_⟩:=h
 simp only[List.drop_drop,List.length_drop]at h2 h3 h4
 exact⟨h1,h2,h3,h4⟩
def PS (bs:List Int) (a:Nat) (bad:Bool) (ah:List UInt8) (kind sh n:Nat) (zs:List Int) (a4:Nat) (jA:Bool):Prop:=
 (jA=false∧bad=false∧kind≤1∧sh≤ah.length∧zs.length=n∧mE kind sh (iK zs)<+:bs.drop a∧a4=a+(mE kind sh (iK zs)).length)∨(jA=true∧(bad=false→No bs a ah))
theorem amk (q:Ov):q.bit≤1:=by unfold Ov.bit;split<;>omega
theorem awy {bs:List Int}(hb:∀z∈bs,0≤z∧z<256){a a1 a2 a3 a4 kind sh n M:Nat}{bad jd jy qg jA:Bool}{ah:List UInt8}{zs:List Int}
  (h1:SS bs 1 a bad kind a1 jd) (h2:SS bs ah.length a1 jd sh a2 jy) (h3:SS bs M a2 jy n a3 qg) (h4:BS bs n a3 qg zs a4 jA) (hM:M=16∨M=16-sh):PS bs a bad ah kind sh n zs a4 jA:=by
 rcases h1 with⟨b1,c1,_⟩|⟨b1,c1,_,_,h1⟩|⟨b1,c1,u1,p1,e1⟩
 ·exact .inr ⟨rX h4 (rY h3 (rY h2 c1)),fun h=>by rw[b1]at h;simp at h⟩
 ·refine .inr ⟨rX h4 (rY h3 (rY h2 c1)),fun _ q _ hp=>h1 q.bit (amk q) (pJ hp).1⟩
 ·rcases h2 with⟨b2,c2,_⟩|⟨b2,c2,_,_,h2⟩|⟨b2,c2,u2,p2,e2⟩
  ·rw[c1]at b2;simp at b2
  ·refine .inr ⟨rX h4 (rY h3 c2),fun _ q _ hp=>?_⟩
   obtain⟨g1,g2,_⟩:=pJ hp
   have:=bJ _ _ _ p1 g1
   rw[←this,←e1]at g2
   exact h2 _ (xL ah q.kl).1 g2
  ·rcases h3 with⟨b3,c3,_⟩|⟨b3,c3,_,_,h3⟩|⟨b3,c3,u3,p3,e3⟩
   ·rw[c2]at b3;simp at b3
   ·refine .inr ⟨rX h4 c3,fun _ q hq hp=>?_⟩
    obtain⟨g1,g2,g3,_⟩:=pJ hp
    have w1:=bJ _ _ _ p1 g1
    rw[←w1,←e1]at g2 g3
    have w2:=bJ _ _ _ p2 g2
    rw[←w2,←e2]at g3
    have:=(iJ hq).2.1
    exact h3 _ (by omega) g3
   ·rcases h4 with⟨b4,c4,_⟩|⟨b4,c4,d4,e4,f4⟩
    ·refine .inr ⟨c4,fun _ q hq hp=>?_⟩
     obtain⟨g1,g2,g3,g4⟩:=pJ hp
     have w1:=bJ _ _ _ p1 g1
     rw[←w1,←e1]at g2 g3 g4
     have w2:=bJ _ _ _ p2 g2
     rw[←w2,←e2]at g3 g4
     have w3:=bJ _ _ _ p3 g3
     rw[←w3,←e3]at g4
     have hl:=g4.length_le
     rw[ja,List.length_drop,List.length_drop]at hl
     rcases b4 with b4|b4
     ·rw[c3]at b4;simp at b4
     ·omega
    ·have hl:zs.length=n:=by rw[e4,List.length_take,List.length_drop];omega
     have hbz:ints (iK zs)=zs:=acQ fun z hz=>hb z (by rw[e4]at hz;exact List.mem_of_mem_drop (List.mem_of_mem_take hz))
     refine .inl ⟨d4,b1,u1,u2,hl,?_,?_⟩
     ·unfold mE
      rw[bq,bq,bq,hbz,jS,hl]
      simp only[List.drop_drop]
      refine⟨p1,?_,?_,?_⟩
      ·rw[e1]at p2;exact p2
      ·rw[e2,e1]at p3;exact p3
      ·rw[e3,e2,e1]at e4
       rw[e4]
       exact List.take_prefix _ _
     ·unfold mE
      simp only[List.length_append,ja,jS,hl]
      unfold sz at e1 e2 e3
      omega
def OS (bs:List Int) (a:Nat) (bad:Bool) (ah:List UInt8) (o:Ov) (a':Nat) (bad':Bool):Prop:=
 (bad=false∧bad'=false∧fO ah o<+:bs.drop a∧a'=a+(fO ah o).length∧o.shape)∨(bad'=true∧(bad=false→No bs a ah))
theorem abz {sh:Nat}{ah rest:List UInt8}(h:sh≤ah.length):(ah.take sh++rest).drop sh=rest:=by
 have:(ah.take sh).length=sh:=by rw[List.length_take];omega
 rw[List.drop_append_of_le_length (by omega),List.drop_of_length_le (by omega),List.nil_append]
theorem awj {bs:List Int}{a a4 kind sh n:Nat}{bad:Bool}{ah:List UInt8}{zs:List Int}(h:PS bs a bad ah kind sh n zs a4 false)(hc:com ah (ah.take sh++iK zs)≠sh):No bs a ah:=by
 rcases h with⟨_,_,_,_,_,h,_⟩|⟨h,_⟩
 ·intro q hq hp
  unfold fO at hp
  rw[bq]at hp
  obtain⟨_,e2,e3⟩:=wL h hp.1
  apply hc
  rw[e3,e2,aes]
 ·simp at h
theorem as7 {bs:List Int}{a a4 sh n:Nat}{bad:Bool}{ah:List UInt8}{zs:List Int}{o:Ov}(h:PS bs a bad ah 0 sh n zs a4 false)(hp:o.p=false)(hk:o.kl=ah.take sh++iK zs)(hv:o.vl=[])(hc:com ah o.kl=sh):OS bs a bad ah o a4 false:=by
 rcases h with⟨_,h1,_,h2,h3,h4,h5⟩|⟨h,_⟩
 ·have e:fO ah o=mE 0 sh (iK zs):=by
   unfold fO Ov.bit
   rw[hp,hc,hk,abz h2]
   simp
  exact .inl ⟨h1,rfl,by rw[e];exact h4,by rw[e];exact h5,.inr hv⟩
 ·simp at h
theorem atm {bs:List Int}(hb:∀z∈bs,0≤z∧z<256){a a4 a5 a6 sh n m:Nat}{bad um afk:Bool}{ah:List UInt8}{zs ys:List Int}{o:Ov}(h:PS bs a bad ah 1 sh n zs a4 false)(hp:o.p=true)(hk:o.kl=ah.take sh++iK zs)(hv:o.vl=iK ys)(hc:com ah o.kl=sh)
  (g1:SS bs 32 a4 false m a5 um) (g2:BS bs m a5 um ys a6 afk):OS bs a bad ah o a6 afk:=by
 rcases h with⟨_,h1,_,h2,h3,h4,h5⟩|⟨h,_⟩
 ·have e:fO ah o=mE 1 sh (iK zs)++cnt (iK ys):=by
   unfold fO Ov.bit
   rw[hp,hc,hk,abz h2,hv]
   simp
  have none:(∀t:List UInt8,t.length≤32→¬cnt t<+:bs.drop a4)→No bs a ah:=by
   intro hn q hq hpq
   have hpq0:=hpq
   unfold fO at hpq
   rw[bq]at hpq
   obtain⟨e1,e2,e3⟩:=wL h4 hpq.1
   have hpp:q.p=true:=by
    unfold Ov.bit at e1
    cases hh:q.p
    ·rw[hh]at e1;simp at e1
    ·rfl
   have hq2:=hpq.2
   rw[hpp,List.drop_drop,←e1,←e3,←e2]at hq2
   rw[if_pos rfl,←h5]at hq2
   exact hn q.vl (iJ hq).2.2.1 hq2
  rcases g1 with⟨b1,_⟩|⟨b1,c1,_,_,g1⟩|⟨b1,c1,u1,p1,e1⟩
  ·simp at b1
  ·refine .inr ⟨rX g2 c1,fun _=>none fun t ht hp=>?_⟩
   unfold cnt at hp
   rw[bq]at hp
   exact g1 _ ht hp.1
  ·rcases g2 with⟨b2,c2,_⟩|⟨b2,c2,d2,e2,f2⟩
   ·refine .inr ⟨c2,fun _=>none fun t ht hp=>?_⟩
    unfold cnt at hp
    rw[bq,List.drop_drop]at hp
    have w:=bJ _ _ _ p1 hp.1
    have hl:=hp.2.length_le
    rw[ja,List.length_drop]at hl
    rcases b2 with b2|b2
    ·rw[c1]at b2;simp at b2
    ·unfold sz at e1
     rw[w]at e1 b2
     omega
   ·have hl:ys.length=m:=by rw[e2,List.length_take,List.length_drop];omega
    have hby:ints (iK ys)=ys:=acQ fun z hz=>hb z (by rw[e2]at hz;exact List.mem_of_mem_drop (List.mem_of_mem_take hz))
    refine .inl ⟨h1,d2,?_,?_,.inl hp⟩
    ·rw[e,bq,List.drop_drop,←h5]
     refine⟨h4,?_⟩
     unfold cnt
     rw[bq,List.drop_drop,jS,hl,hby]
     refine⟨p1,?_⟩
     unfold sz at e1
     rw[←e1,e2]
     exact List.take_prefix _ _
    ·rw[e,List.length_append,←Nat.add_assoc,←h5,f2,e1,lK,jS,hl]
     omega
 ·simp at h
def KS (bs:List Int) (a1:Nat) (jd:Bool) (ah key:List UInt8) (a':Nat) (bad':Bool):Prop:=
 ∃sh n zs a2 jy a3 qg jA,SS bs ah.length a1 jd sh a2 jy∧SS bs (16-sh) a2 jy n a3 qg∧BS bs n a3 qg zs a' jA∧key=ah.take sh++iK zs∧bad'=(jA||decide (com ah key≠sh))
theorem aqX {bs:List Int}(hb:∀z∈bs,0≤z∧z<256){a a1 a' kind:Nat}{bad jd bad':Bool}{ah key:List UInt8}(h1:SS bs 1 a bad kind a1 jd)(h:KS bs a1 jd ah key a' bad'):
  (bad'=true∧(bad=false→No bs a ah))∨(bad'=false∧∃sh n zs,PS bs a bad ah kind sh n zs a' false∧key=ah.take sh++iK zs∧com ah key=sh):=by
 obtain⟨sh,n,zs,a2,jy,a3,qg,jA,h2,h3,h4,hk,e⟩:=h
 have hp:=awy hb h1 h2 h3 h4 (.inr rfl)
 cases jA
 ·by_cases hc:com ah key=sh
  ·exact .inr ⟨by rw[e];simpa using hc,sh,n,zs,hp,hk,hc⟩
  ·refine .inl ⟨by rw[e];simpa using hc,fun _=>awj hp (by rw[←hk];exact hc)⟩
 ·rcases hp with⟨h,_⟩|⟨_,h⟩
  ·simp at h
  ·exact .inl ⟨by rw[e];rfl,h⟩
theorem avr {bs:List Int}(hb:∀z∈bs,0≤z∧z<256){a a1 a':Nat}{bad jd bad':Bool}{ah key:List UInt8}{o:Ov}(h1:SS bs 1 a bad 0 a1 jd)(h:KS bs a1 jd ah key a' bad')(hp:o.p=false)(hk:o.kl=key)(hv:o.vl=[]):OS bs a bad ah o a' bad':=by
 rcases aqX hb h1 h with⟨g1,g2⟩|⟨g1,sh,n,zs,g2,g3,g4⟩
 ·exact .inr ⟨g1,g2⟩
 ·rw[g1]
  exact as7 g2 hp (hk.trans g3) hv (by rw[hk];exact g4)
theorem aub {bs:List Int}(hb:∀z∈bs,0≤z∧z<256){a a1 a4 a5 a6 m:Nat}{bad jd jA um afk:Bool}{ah key:List UInt8}{ys:List Int}{o:Ov}(h1:SS bs 1 a bad 1 a1 jd)(h:KS bs a1 jd ah key a4 jA)(hp:o.p=true)(hk:o.kl=key)(hv:o.vl=iK ys)
  (g1:SS bs 32 a4 jA m a5 um) (g2:BS bs m a5 um ys a6 afk):OS bs a bad ah o a6 afk:=by
 rcases aqX hb h1 h with⟨k1,k2⟩|⟨k1,sh,n,zs,k2,k3,k4⟩
 ·exact .inr ⟨rX g2 (rY g1 k1),k2⟩
 ·rw[k1]at g1
  exact atm hb k2 hp (hk.trans k3) hv (by rw[hk];exact k4) g1 g2
theorem alE {bs:List Int}{a1 a':Nat}{jd bad':Bool}{ah key:List UInt8}(h:KS bs a1 jd ah key a' bad')(hah:ah.length≤16):key.length≤16:=by
 obtain⟨sh,n,zs,a2,jy,a3,qg,jA,h2,h3,h4,hk,_⟩:=h
 have e1:=uI h2
 have e2:=uI h3
 have e3:=adE h4
 rw[hk,List.length_append,jS,List.length_take]
 omega
def NB (bs:List Int):Prop:=∀m:List Ov,dY m=0→¬eB m<+:bs
def LS (bs:List Int) (c:Nat) (l:List Ov) (a:Nat) (bad:Bool) (ah:List UInt8):Prop:=
 (bad=false∧c≤8∧enc c<+:bs∧eu [] l<+:bs.drop (sz c)∧a=sz c+(eu [] l).length∧ah=ay [] l∧∀o∈l,o.shape)∨(bad=true∧NB bs)
theorem am6 {bs:List Int}{c a:Nat}{bad:Bool}(h:SS bs 8 0 false c a bad):LS bs c [] a bad []:=by
 rcases h with⟨h,_⟩|⟨_,h1,_,_,h⟩|⟨_,h1,h2,h3,h4⟩
 ·simp at h
 ·refine .inr ⟨h1,fun m hm hp=>?_⟩
  unfold eB at hp
  rw[bq]at hp
  exact h _ (dI hm).2.1 (by simpa using hp.1)
 ·refine .inl ⟨h1,h2,by simpa using h3,by simp[eu],by simp[eu,h4],rfl,by simp⟩
theorem asA {bs:List Int}{c a a':Nat}{bad bad':Bool}{l:List Ov}{ah:List UInt8}{o:Ov}(h:LS bs c l a bad ah)(hl:l.length<c)(g:OS bs a bad ah o a' bad'):LS bs c (l++[o]) a' bad' o.kl:=by
 rcases h with⟨rfl,h1,h2,h3,h4,h5,h6⟩|⟨rfl,h⟩
 ·rcases g with⟨_,g1,g2,g3,g4⟩|⟨g1,g2⟩
  ·refine .inl ⟨g1,h1,h2,?_,?_,(j6 _ _ _).symm,?_⟩
   ·rw[rC,bq,List.drop_drop,←h4,←h5]
    exact⟨h3,g2⟩
   ·rw[rC,List.length_append,←h5,g3,h4,Nat.add_assoc]
   ·intro x hx
    rcases List.mem_append.1 hx with hx|hx
    ·exact h6 x hx
    ·rw[List.mem_singleton.1 hx];exact g4
  ·refine .inr ⟨g1,fun m hm hp=>?_⟩
   unfold eB at hp
   rw[bq]at hp
   have e:=bJ _ _ _ h2 hp.1
   have hp2:=hp.2
   have hlm:l.length<m.length:=by omega
   have hsplit:m=m.take l.length++m[l.length]::m.drop (l.length+1):=by
    rw[List.getElem_cons_drop,List.take_append_drop]
   rw[hsplit,afx,bq]at hp2
   have hmem:∀x∈m.take l.length,x.shape:=fun x hx=>shapes hm x (List.mem_of_mem_take hx)
   have hsz:(enc m.length).length=sz c:=by rw[←e];rfl
   rw[←hsplit,hsz]at hp2
   have e2:=wX [] l (m.take l.length) _ (by rw[List.length_take];omega) h6 hmem h3 hp2.1
   have hp3:=hp2.2
   rw[←e2,List.drop_drop,←h4,←h5]at hp3
   show False
   unfold eu at hp3
   rw[bq]at hp3
   exact g2 rfl _ ((dI hm).2.2 _ (List.getElem_mem _)) hp3.1
 ·rcases g with⟨g,_⟩|⟨g1,_⟩
  ·simp at g
  ·exact .inr ⟨g1,h⟩
theorem avz {bs:List Int}{c a:Nat}{l:List Ov}{ah:List UInt8}(h:LS bs c l a false ah)(hl:l.length=c)(hc:dY l=0):aey bs l a 0:=by
 rcases h with⟨_,h1,h2,h3,h4,_⟩|⟨h,_⟩
 ·have e:eB l=enc c++eu [] l:=by unfold eB;rw[hl]
  refine .inl ⟨rfl,hc,?_,?_⟩
  ·rw[e,bq];exact⟨h2,h3⟩
  ·rw[e,List.length_append,h4];rfl
 ·simp at h
theorem aj9 {bs:List Int}{c a:Nat}{l:List Ov}{ah:List UInt8}{bad:Bool}(h:LS bs c l a bad ah)(hl:bad=false→l.length=c)(hc:bad=true∨dY l≠0):aey bs [] 0 5:=by
 refine .inr ⟨rfl,rfl,rfl,?_⟩
 rcases h with⟨hb,h1,h2,h3,h4,_,h6⟩|⟨_,h⟩
 ·rcases hc with hc|hc
  ·rw[hc]at hb;simp at hb
  ·intro m hm hp
   have e:eB l<+:bs:=by
    unfold eB
    rw[hl hb,bq]
    exact⟨h2,h3⟩
   have:=vV e hp h6 (shapes hm)
   rw[this]at hc
   exact hc hm
 ·exact h
def sum:List Ov→Nat
 |[]=>0
 |o::r=>(dN o.p o.kl o.vl).length+sum r
theorem aq6 (ah:List UInt8){o:Ov}(h:o.c=0):(fO ah o).length≤(dN o.p o.kl o.vl).length+1:=by
 have hh:=iJ h
 have hc:=xL ah o.kl
 have hb:=amk o
 unfold fO mE dN
 have e1:(enc o.bit).length=1:=by have:=iF (x:=o.bit) (by omega);exact this
 have e2:(enc (com ah o.kl)).length=1:=by have:=iF (x:=com ah o.kl) (by omega);exact this
 have e3:(enc (o.kl.length-com ah o.kl)).length=1:=by have:=iF (x:=o.kl.length-com ah o.kl) (by omega);exact this
 have e4:=lK o.kl
 rw[iF (by omega)]at e4
 simp only[List.length_append,List.length_cons,List.length_drop,e1,e2,e3,e4,ja]
 split<;>simp<;>omega
theorem ab3:∀(ah:List UInt8) (l:List Ov),(∀o∈l,o.c=0)→(eu ah l).length≤sum l+l.length
 |_,[],_=>by simp[eu,sum]
 |ah,o::l,h=>by
  have h1:=aq6 ah (h o (by simp))
  have h2:=ab3 o.kl l fun x hx=>h x (by simp[hx])
  simp only[eu,sum,List.length_append,List.length_cons]
  omega
theorem arI {l:List Ov}(h:dY l=0):(eB l).length≤9+sum l:=by
 obtain⟨h1,h2,h3⟩:=dI h
 have:=ab3 [] l h3
 have e:(enc l.length).length=1:=by have:=iF (x:=l.length) (by omega);exact this
 unfold eB
 rw[List.length_append,e]
 omega
theorem af8:∀{l:List Ov},(∀o∈l,o.c=0)→sum l≤51*l.length
 |[],_=>by simp[sum]
 |o::l,h=>by
  have h1:=uD (h o (by simp))
  have h2:=af8 (l:=l) fun x hx=>h x (by simp[hx])
  simp only[sum,List.length_cons]
  unfold Ov.kl Ov.vl at*
  omega
theorem aiV {l:List Ov}(h:dY l=0):(eB l).length≤420:=by
 have:=arI h
 obtain⟨h1,h2,h3⟩:=dI h
 have:=af8 h3
 omega
def eqO (o q:Ov):Bool:=(o.p==q.p)&&(decide (o.kl=q.kl)&&decide (o.vl=q.vl))
theorem sj {o q:Ov}:eqO o q=true↔o=q:=by
 unfold eqO
 constructor
 ·intro h
  simp at h
  exact Ov.eq h.1 h.2.1 h.2.2
 ·rintro rfl
  simp
def sameL:List Ov→List Ov→Bool
 |[],[]=>true
 |o::l,q::m=>eqO o q&&sameL l m
 |_,_=>false
theorem nY:∀{l m:List Ov},sameL l m=true↔l=m
 |[],[]=>by simp[sameL]
 |[],_::_=>by simp[sameL]
 |_::_,[]=>by simp[sameL]
 |o::l,q::m=>by simp[sameL,sj,nY (l:=l) (m:=m)]
theorem uX {l m:List Ov}(h:l≠m):sameL l m=false:=by
 cases hs:sameL l m
 ·rfl
 ·exact absurd (nY.1 hs) h
end Go.Proofs.YtjemlgdkjilnoaaGreatDoor.Bm
namespace Go.Proofs.YtjemlgdkjilnoaaGreatDoor.Cm
open Vm Om Bm
set_option linter.unusedVariables false
structure Cv where
 e:Int
 n:Int
 l:List Ov
def chk (e n:Int) (l:List Ov):Int:=if 1≤e∧e≤1048576∧1≤n∧n≤1048576 then dY l else 2
theorem mD {e n:Int}{l:List Ov}(h:1≤e∧e≤1048576∧1≤n∧n≤1048576):chk e n l=dY l:=by unfold chk;rw[if_pos h]
theorem abD {e n:Int}{l:List Ov}(h:¬(1≤e∧e≤1048576∧1≤n∧n≤1048576)):chk e n l=2:=by unfold chk;rw[if_neg h]
theorem aQ {e n:Int}{l:List Ov}(h:chk e n l=0):1≤e∧e≤1048576∧1≤n∧n≤1048576∧dY l=0:=by
 by_cases hb:1≤e∧e≤1048576∧1≤n∧n≤1048576
 ·rw[mD hb]at h
  exact⟨hb.1,hb.2.1,hb.2.2.1,hb.2.2.2,h⟩
 ·rw[abD hb]at h
  simp at h
theorem qN (e n:Int)(l:List Ov):chk e n l=0∨chk e n l=2∨chk e n l=3:=by
 unfold chk
 split
 ·exact ak3 l
 ·exact .inr (.inl rfl)
def iA (e n:Int) (l:List Ov):List Int:=enc e.toNat++(enc n.toNat++eB l)
def out (e n:Int) (l:List Ov):List Int:=if chk e n l=0 then iA e n l else []
theorem jh {e n:Int}{l:List Ov}(h:chk e n l=0):out e n l=iA e n l:=by unfold out;rw[if_pos h]
theorem nV {e n:Int}{l:List Ov}(h:chk e n l≠0):out e n l=[]:=by unfold out;rw[if_neg h]
theorem gz {x:Int}(h:x≤1048576):(enc x.toNat).length≤3:=nK 2 x.toNat (by omega)
theorem abk {e n:Int}{l:List Ov}(h:chk e n l=0):(iA e n l).length≤430:=by
 obtain⟨_,h1,_,h2,h3⟩:=aQ h
 have:=gz h1
 have:=gz h2
 have:=aiV h3
 unfold iA
 simp only[List.length_append]
 omega
theorem xq (e n:Int)(l:List Ov):(out e n l).length≤430:=by
 by_cases h:chk e n l=0
 ·rw[jh h];exact abk h
 ·rw[nV h];simp
theorem ae5 {e n e' n':Int}{l l':List Ov}(h:chk e n l=0)(h':chk e' n' l'=0)(he:iA e n l=iA e' n' l'):e=e'∧n=n'∧l=l':=by
 obtain⟨h1,h2,h3,h4,h5⟩:=aQ h
 obtain⟨g1,g2,g3,g4,g5⟩:=aQ h'
 unfold iA at he
 have p1:=bJ (enc e.toNat++(enc n.toNat++eB l)) e.toNat e'.toNat (List.prefix_append _ _) (by rw[he];exact List.prefix_append _ _)
 have e1:e=e':=by omega
 subst e1
 have he2:=List.append_cancel_left he
 have p2:=bJ (enc n.toNat++eB l) n.toNat n'.toNat (List.prefix_append _ _) (by rw[he2];exact List.prefix_append _ _)
 have e2:n=n':=by omega
 subst e2
 have he3:=List.append_cancel_left he2
 exact⟨rfl,rfl,vV (List.prefix_refl _) (by rw[he3];exact List.prefix_refl _) (shapes h5) (shapes g5)⟩
def oK (bs:List Int) (e n:Int) (l:List Ov) (g:Int):Prop:=
 (g=0∧chk e n l=0∧iA e n l=bs)∨(g=5∧e=0∧n=0∧l=[]∧∀e' n' l',chk e' n' l'=0→iA e' n' l'≠bs)
def aiX (bs:List Int):Prop:=∀x:Nat,x≤1048576→¬enc x<+:bs
theorem apj {bs:List Int}(h:aiX bs):∀e n l,chk e n l=0→iA e n l≠bs:=by
 intro e n l hc he
 obtain⟨h1,h2,_⟩:=aQ hc
 exact h e.toNat (by omega) (by rw[←he];exact List.prefix_append _ _)
theorem aed {x:Nat}{bs:List Int}(h:enc x<+:bs):bs=enc x++bs.drop (sz x):=by
 obtain⟨t,rfl⟩:=h
 simp[sz]
theorem ajR {bs:List Int}{x:Nat}(hx:enc x<+:bs)(h:aiX (bs.drop (sz x))):∀e n l,chk e n l=0→iA e n l≠bs:=by
 intro e n l hc he
 obtain⟨h1,h2,h3,h4,_⟩:=aQ hc
 have p:enc e.toNat<+:bs:=by rw[←he];exact List.prefix_append _ _
 obtain rfl:=bJ _ _ _ hx p
 refine h n.toNat (by omega) ?_
 rw[←he]
 simp[iA,sz]
theorem acN {bs:List Int}{x y:Nat}(hx:enc x<+:bs)(hy:enc y<+:bs.drop (sz x)):bs=enc x++(enc y++bs.drop (sz x+sz y)):=by
 have h1:=aed hx
 have h2:=aed hy
 rw[List.drop_drop]at h2
 rw[←h2]
 exact h1
theorem xY {bs:List Int}{x y:Nat}{e n:Int}{l:List Ov}(hx:enc x<+:bs)(hy:enc y<+:bs.drop (sz x))(hc:chk e n l=0)(he:iA e n l=bs):e=x∧n=y∧eB l=bs.drop (sz x+sz y):=by
 obtain⟨h1,h2,h3,h4,h5⟩:=aQ hc
 have p:enc e.toNat<+:bs:=by rw[←he];exact List.prefix_append _ _
 have e1:=bJ _ _ _ hx p
 have q:enc n.toNat<+:bs.drop (sz x):=by rw[←he,e1];simp[iA,sz]
 have e2:=bJ _ _ _ hy q
 refine⟨by omega,by omega,?_⟩
 have hb:=acN hx hy
 rw[←he]at hb
 unfold iA at hb
 rw[e1,e2]at hb
 have:=List.append_cancel_left (List.append_cancel_left hb)
 rw[this,←he,e1,e2,iA]
theorem anP {bs:List Int}{x y:Nat}(hx:enc x<+:bs)(hy:enc y<+:bs.drop (sz x))(h:∀m,dY m=0→¬eB m<+:bs.drop (sz x+sz y)):∀e n l,chk e n l=0→iA e n l≠bs:=by
 intro e n l hc he
 obtain⟨_,_,h3⟩:=xY hx hy hc he
 exact h l (aQ hc).2.2.2.2 (by rw[h3];exact List.prefix_refl _)
theorem agE {bs:List Int}{x y:Nat}{m:List Ov}(hx:enc x<+:bs)(hy:enc y<+:bs.drop (sz x))(hm:dY m=0)(hp:eB m<+:bs.drop (sz x+sz y))(h:sz x+sz y+(eB m).length≠bs.length∨chk x y m≠0):∀e n l,chk e n l=0→iA e n l≠bs:=by
 intro e n l hc he
 obtain⟨rfl,rfl,h3⟩:=xY hx hy hc he
 obtain rfl:=vV hp (show eB l<+:_ by rw[h3];exact List.prefix_refl _) (shapes hm) (shapes (aQ hc).2.2.2.2)
 rcases h with h|h
 ·apply h
  have:=congrArg List.length he
  simp only[iA,List.length_append,Int.toNat_natCast]at this
  unfold sz
  omega
 ·exact h hc
theorem aj4 {bs:List Int}{x y:Nat}{m:List Ov}(hx:enc x<+:bs)(hy:enc y<+:bs.drop (sz x))(hp:eB m<+:bs.drop (sz x+sz y))(hl:sz x+sz y+(eB m).length=bs.length):iA x y m=bs:=by
 have h1:=acN hx hy
 have h2:eB m=bs.drop (sz x+sz y):=by
  obtain⟨t,ht⟩:=hp
  have:=congrArg List.length ht
  simp only[List.length_append,List.length_drop]at this
  have:t=[]:=List.eq_nil_of_length_eq_zero (by omega)
  subst this
  simpa using ht
 unfold iA
 rw[Int.toNat_natCast,Int.toNat_natCast,h2]
 exact h1.symm
def fol (ep nu:Int) (i:Nat):List Cv→Int×Int
 |[]=>(0,0)
 |c::r=>if chk c.e c.n c.l≠0 then(chk c.e c.n c.l,i)else if c.n-1≠nu∨c.e<ep then(15,i)else fol c.e c.n (i+1) r
theorem ahu (ep nu:Int)(i:Nat):fol ep nu i []=(0,0):=rfl
theorem ym {ep nu:Int}{i:Nat}{c:Cv}{r:List Cv}(h:chk c.e c.n c.l≠0):fol ep nu i (c::r)=(chk c.e c.n c.l,(i:Int)):=by simp[fol,h]
theorem yo {ep nu:Int}{i:Nat}{c:Cv}{r:List Cv}(h:chk c.e c.n c.l=0)(h':c.n-1≠nu∨c.e<ep):fol ep nu i (c::r)=(15,(i:Int)):=by rw[fol,if_neg (by simp[h]),if_pos h']
theorem aaR {ep nu:Int}{i:Nat}{c:Cv}{r:List Cv}(h:chk c.e c.n c.l=0)(h':¬(c.n-1≠nu∨c.e<ep)):fol ep nu i (c::r)=fol c.e c.n (i+1) r:=by rw[fol,if_neg (by simp[h]),if_neg h']
def flt (at':Int) (ep nu:Int) (c:Cv):Int×Int:=if chk c.e c.n c.l≠0 then(chk c.e c.n c.l,at')else if c.n-1≠nu∨c.e<ep then(15,at')else(0,0)
theorem abU {a ep nu:Int}{c:Cv}(h:chk c.e c.n c.l≠0):flt a ep nu c=(chk c.e c.n c.l,a):=by simp[flt,h]
theorem ab6 {a ep nu:Int}{c:Cv}(h:chk c.e c.n c.l=0)(h':c.n-1≠nu∨c.e<ep):flt a ep nu c=(15,a):=by rw[flt,if_neg (by simp[h]),if_pos h']
theorem aeQ {a ep nu:Int}{c:Cv}(h:chk c.e c.n c.l=0)(h':¬(c.n-1≠nu∨c.e<ep)):flt a ep nu c=(0,0):=by rw[flt,if_neg (by simp[h]),if_neg h']
theorem aeT {a ep nu:Int}{c:Cv}(h:(flt a ep nu c).1=0):chk c.e c.n c.l=0∧¬(c.n-1≠nu∨c.e<ep)∧(flt a ep nu c).2=0:=by
 by_cases h1:chk c.e c.n c.l=0
 ·by_cases h2:c.n-1≠nu∨c.e<ep
  ·rw[ab6 h1 h2]at h
   simp at h
  ·refine⟨h1,h2,?_⟩
   rw[aeQ h1 h2]
 ·rw[abU h1]at h
  exact absurd h h1
theorem amQ {ep nu:Int}{i:Nat}{c:Cv}{r:List Cv}(h:(flt i ep nu c).1≠0):fol ep nu i (c::r)=flt i ep nu c:=by
 by_cases h1:chk c.e c.n c.l=0
 ·by_cases h2:c.n-1≠nu∨c.e<ep
  ·rw[ab6 h1 h2,yo h1 h2]
  ·rw[aeQ h1 h2]at h
   simp at h
 ·rw[abU h1,ym h1]
theorem apc {ep nu:Int}{i:Nat}{c:Cv}{r:List Cv}(h:(flt i ep nu c).1=0):fol ep nu i (c::r)=fol c.e c.n (i+1) r:=by
 obtain⟨h1,h2,_⟩:=aeT h
 exact aaR h1 h2
def Good (ep nu:Int):List Cv→Prop
 |[]=>True
 |c::r=>chk c.e c.n c.l=0∧c.n-1=nu∧ep≤c.e∧Good c.e c.n r
theorem eY:∀(l:List Cv) (ep nu:Int) (i:Nat),(fol ep nu i l).1=0↔Good ep nu l
 |[],_,_,_=>by simp[fol,Good]
 |c::r,ep,nu,i=>by
  by_cases h1:chk c.e c.n c.l=0
  ·by_cases h2:c.n-1≠nu∨c.e<ep
   ·rw[yo h1 h2]
    simp only[Good]
    constructor
    ·intro h;simp at h
    ·intro h;omega
   ·rw[aaR h1 h2,eY r]
    simp only[Good]
    constructor
    ·intro h;exact⟨h1,by omega,by omega,h⟩
    ·intro h;exact h.2.2.2
  ·rw[ym h1]
   simp only[Good]
   constructor
   ·intro h;exact absurd h h1
   ·intro h;exact absurd h.1 h1
theorem qm:∀(l:List Cv) (ep nu:Int) (i:Nat),(fol ep nu i l).1=0→(fol ep nu i l).2=0
 |[],_,_,_,_=>rfl
 |c::r,ep,nu,i,h=>by
  by_cases h1:chk c.e c.n c.l=0
  ·by_cases h2:c.n-1≠nu∨c.e<ep
   ·rw[yo h1 h2]at h
    simp at h
   ·rw[aaR h1 h2]at h⊢
    exact qm r _ _ _ h
  ·rw[ym h1]at h
   exact absurd h h1
def lastE (ep:Int):List Cv→Int
 |[]=>ep
 |c::r=>lastE c.e r
def lastN (nu:Int):List Cv→Int
 |[]=>nu
 |c::r=>lastN c.n r
theorem dX:∀(l m:List Cv) (ep nu:Int),Good ep nu (l++m)↔Good ep nu l∧Good (lastE ep l) (lastN nu l) m
 |[],m,_,_=>by simp[Good,lastE,lastN]
 |c::r,m,ep,nu=>by
  simp only[List.cons_append,Good,lastE,lastN,dX r m]
  constructor
  ·rintro⟨h1,h2,h3,h4,h5⟩;exact⟨⟨h1,h2,h3,h4⟩,h5⟩
  ·rintro⟨⟨h1,h2,h3,h4⟩,h5⟩;exact⟨h1,h2,h3,h4,h5⟩
theorem iI:∀(l:List Cv) (c:Cv) (ep nu:Int),lastE ep (l++[c])=c.e∧lastN nu (l++[c])=c.n
 |[],_,_,_=>⟨rfl,rfl⟩
 |d::r,c,ep,nu=>by simpa[lastE,lastN]using iI r c d.e d.n
theorem jr {l:List Cv}{ep nu:Int}(h:Good ep nu l)(k:Nat):Good ep nu (l.take k):=by
 rw[←List.take_append_drop k l,dX]at h
 exact h.1
theorem nk:∀(l:List Cv) (ep nu:Int) (k:Nat) (c:Cv),Good ep nu l→l[k]? =some c→chk c.e c.n c.l=0∧c.n-1-k=nu∧lastE ep (l.take k)≤c.e∧lastN nu (l.take k)=nu+k
 |[],_,_,_,_,_,h=>by simp at h
 |d::r,ep,nu,0,c,hg,h=>by
  simp at h
  subst h
  obtain⟨h1,h2,h3,_⟩:=hg
  exact⟨h1,by omega,by simpa[lastE]using h3,by simp[lastN]⟩
 |d::r,ep,nu,k+1,c,hg,h=>by
  obtain⟨h1,h2,h3,h4⟩:=hg
  obtain⟨g1,g2,g3,g4⟩:=nk r d.e d.n k c h4 (by simpa using h)
  refine⟨g1,by omega,by simpa[lastE]using g3,?_⟩
  simp only[List.take_succ_cons,lastN]
  rw[g4]
  omega
end Go.Proofs.YtjemlgdkjilnoaaGreatDoor.Cm
