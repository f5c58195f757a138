/- Texts of one layer, one behind the other. -/
set_option maxRecDepth 100000
set_option maxHeartbeats 8000000
namespace Go.Proofs.YtmngcecomcadkaaGreatDoor.Vm
def enc (x:Nat):List Int:=if _h:x<128 then [(x:Int)]else((x % 128+128:Nat):Int)::enc (x / 128)
def sz (x:Nat):Nat:=(enc x).length
theorem mF {x:Nat}(h:x<128):enc x=[(x:Int)]:=by rw[enc,dif_pos h]
theorem qO {x:Nat}(h:¬x<128):enc x=((x % 128+128:Nat):Int)::enc (x / 128):=by rw[enc,dif_neg h]
theorem iA {x:Nat}(h:x<128):sz x=1:=by unfold sz;rw[mF h];rfl
theorem adC {x:Nat}(h:¬x<128):sz x=sz (x / 128)+1:=by unfold sz;rw[qO h];rfl
theorem tH (x:Nat):1≤sz x:=by
 by_cases h:x<128
 ·rw[iA h];omega
 ·rw[adC h];omega
theorem nT:∀(k x:Nat),x<128 ^ (k+1)→sz x≤k+1:=by
 intro k
 induction k with
 |zero=>intro x h;rw[iA (by simpa using h)];omega
 |succ k ih=>
  intro x h
  by_cases hx:x<128
  ·rw[iA hx];omega
  ·rw[adC hx]
   have:x / 128<128 ^ (k+1):=by
    rw[Nat.div_lt_iff_lt_mul (by omega)]
    rw[Nat.pow_succ]at h
    exact h
   have:=ih _ this
   omega
theorem kH {x:Nat}(h:x<18446744073709551616):sz x≤10:=
 nT 9 x (Nat.lt_of_lt_of_le h (by decide))
theorem jw {a b:Int}{l m:List Int}:a::l<+:b::m↔a=b∧l<+:m:=List.cons_prefix_cons
theorem pre_nil (y:Nat):¬enc y<+:[]:=by
 intro h
 rw[List.prefix_nil]at h
 have:=tH y
 unfold sz at this
 rw[h]at this
 simp at this
theorem aa8 {y:Nat}{c:Int}{rest:List Int}(hc:c<128):enc y<+:c::rest↔(y:Int)=c:=by
 by_cases h:y<128
 ·rw[mF h,jw]
  simp
 ·rw[qO h,jw]
  constructor
  ·intro h;omega
  ·intro h;omega
theorem alc {y:Nat}{c:Int}{rest:List Int}(hc:128≤c)(hc2:c<256):enc y<+:c::rest↔∃y',1≤y'∧y=(c-128).toNat+128*y'∧enc y'<+:rest:=by
 by_cases h:y<128
 ·rw[mF h,jw]
  constructor
  ·intro h;omega
  ·rintro⟨y',h1,h2,_⟩;omega
 ·rw[qO h,jw]
  constructor
  ·rintro⟨h1,h2⟩
   exact⟨y / 128,by omega,by omega,h2⟩
  ·rintro⟨y',h1,h2,h3⟩
   have:y / 128=y':=by omega
   rw[this]
   exact⟨by omega,h3⟩
theorem bQ:∀(bs:List Int) (x y:Nat),enc x<+:bs→enc y<+:bs→x=y
 |[],x,_,hx,_=>absurd hx (pre_nil x)
 |c::rest,x,y,hx,hy=>by
  by_cases hx1:x<128
  ·rw[mF hx1,jw]at hx
   rw[aa8 (by omega)]at hy
   omega
  ·by_cases hy1:y<128
   ·rw[mF hy1,jw]at hy
    rw[aa8 (by omega)]at hx
    omega
   ·rw[qO hx1,jw]at hx
    rw[qO hy1,jw]at hy
    have:=bQ rest _ _ hx.2 hy.2
    omega
def Res (bs:List Int) (x n e:Int):Prop:=
 (∃u:Nat,u<18446744073709551616∧enc u<+:bs∧x=u∧n=sz u∧e=0)∨((∀u:Nat,u<18446744073709551616→¬enc u<+:bs)∧x=0∧n=0∧e=5)
theorem aut (bs:List Int):∃x n e,Res bs x n e:=by
 by_cases h:∃u:Nat,u<18446744073709551616∧enc u<+:bs
 ·obtain⟨u,h1,h2⟩:=h
  exact⟨u,sz u,0,.inl ⟨u,h1,h2,rfl,rfl,rfl⟩⟩
 ·exact⟨0,0,5,.inr ⟨fun u h1 h2=>h ⟨u,h1,h2⟩,rfl,rfl,rfl⟩⟩
theorem tN {bs:List Int}{x n e:Int}(h:Res bs x n e)(hb:∀u:Nat,u<18446744073709551616→¬enc u<+:bs):x=0∧n=0∧e=5:=by
 rcases h with⟨u,h1,h2,_⟩|⟨_,h⟩
 ·exact absurd h2 (hb u h1)
 ·exact h
theorem uU {bs:List Int}{x n e:Int}(h:Res bs x n e){u:Nat}(h1:u<18446744073709551616)(h2:enc u<+:bs):x=u∧n=sz u∧e=0:=by
 rcases h with⟨v,h3,h4,h⟩|⟨hb,_⟩
 ·have:=bQ bs u v h2 h4
  subst this
  exact h
 ·exact absurd h2 (hb u h1)
theorem mU {bs:List Int}{x n e:Int}(h:Res bs x n e):0≤x∧x<18446744073709551616∧0≤n∧n≤10∧n≤bs.length∧(e=0∨e=5):=by
 rcases h with⟨u,h1,h2,rfl,rfl,rfl⟩|⟨_,rfl,rfl,rfl⟩
 ·have:=kH h1
  have h3:=h2.length_le
  unfold sz at*
  omega
 ·omega
def Inv (bs:List Int) (n acc:Nat):Prop:=
 acc<128 ^ n∧(∀x,enc x<+:bs↔∃y,(1≤y∨n=0)∧x=acc+y*128 ^ n∧enc y<+:bs.drop n)∧(∀y,(1≤y∨n=0)→sz (acc+y*128 ^ n)=n+sz y)∧∀y,(1≤y∨n=0)→enc (acc+y*128 ^ n)=bs.take n++enc y
theorem amg (bs:List Int):Inv bs 0 0:=by
 refine⟨by simp,fun x=>?_,fun y _=>by simp,fun y _=>by simp⟩
 simp
theorem aoG {bs:List Int}{n acc:Nat}{c:Int}(h:Inv bs n acc)(hn:n<bs.length)(hc:bs.getD n 0=c)(h1:128≤c)(h2:c<256):Inv bs (n+1) (acc+(c % 128).toNat*128 ^ n):=by
 obtain⟨ha,hx,hs,he⟩:=h
 have hd:bs.drop n=c::bs.drop (n+1):=by
  rw[List.drop_eq_getElem_cons hn]
  simp[hn]at hc
  rw[hc]
 have hp:128 ^ (n+1)=128*128 ^ n:=by rw[Nat.pow_succ,Nat.mul_comm]
 have e0:(c-128).toNat=(c % 128).toNat:=by omega
 have hl:(c % 128).toNat≤127:=by omega
 have key:∀y':Nat,acc+((c % 128).toNat+128*y')*128 ^ n=acc+(c % 128).toNat*128 ^ n+y'*128 ^ (n+1):=by
  intro y'
  rw[hp,Nat.add_mul,Nat.mul_comm 128 y',Nat.mul_assoc,Nat.add_assoc]
 refine⟨?_,fun x=>?_,fun y hy=>?_,fun y hy=>?_⟩
 ·rw[hp]
  have:(c % 128).toNat*128 ^ n≤127*128 ^ n:=Nat.mul_le_mul_right _ hl
  omega
 ·rw[hx x]
  constructor
  ·rintro⟨y,hy,rfl,hpre⟩
   rw[hd,alc h1 h2]at hpre
   obtain⟨y',g1,g2,g3⟩:=hpre
   refine⟨y',.inl g1,?_,g3⟩
   rw[g2,e0,key]
  ·rintro⟨y',hy,rfl,hpre⟩
   have g1:1≤y':=by omega
   refine⟨(c % 128).toNat+128*y',.inl (by omega),(key y').symm,?_⟩
   rw[hd,alc h1 h2]
   exact⟨y',g1,by omega,hpre⟩
 ·have g1:1≤y:=by omega
  rw[←key,hs _ (.inl (by omega)),adC (by omega)]
  have:((c % 128).toNat+128*y) / 128=y:=by omega
  rw[this]
  omega
 ·have g1:1≤y:=by omega
  rw[←key,he _ (.inl (by omega)),qO (by omega)]
  have e1:((c % 128).toNat+128*y) / 128=y:=by omega
  have e2:((((c % 128).toNat+128*y) % 128+128:Nat):Int)=c:=by omega
  have e3:bs[n]=c:=by simpa[hn]using hc
  rw[e1,e2,List.take_succ_eq_append_getElem hn,e3]
  simp
theorem aj9 {bs:List Int}{n acc:Nat}(h:Inv bs n acc)(hn:bs.length≤n):∀u:Nat,u<18446744073709551616→¬enc u<+:bs:=by
 intro u _ hu
 obtain⟨y,_,_,hp⟩:=(h.2.1 u).1 hu
 rw[List.drop_eq_nil_of_le hn]at hp
 exact pre_nil y hp
theorem aoC {bs:List Int}{acc:Nat}{c:Int}(h:Inv bs 9 acc)(hn:9<bs.length)(hc:bs.getD 9 0=c)(h1:1<c)(h2:c<256):∀u:Nat,u<18446744073709551616→¬enc u<+:bs:=by
 intro u hlt hu
 obtain⟨y,_,rfl,hp⟩:=(h.2.1 u).1 hu
 have hd:bs.drop 9=c::bs.drop 10:=by
  rw[List.drop_eq_getElem_cons hn]
  simp[hn]at hc
  rw[hc]
 rw[hd]at hp
 have hy:y≤1:=by
  have:(128:Nat) ^ 9=9223372036854775808:=by decide
  omega
 rw[mF (by omega),jw]at hp
 omega
theorem inv_zero {bs:List Int}{n acc:Nat}(h:Inv bs n acc)(hn:n<bs.length)(hc:bs.getD n 0=0)(h1:1≤n):∀u:Nat,u<18446744073709551616→¬enc u<+:bs:=by
 intro u _ hu
 obtain⟨y,hy,rfl,hp⟩:=(h.2.1 u).1 hu
 have hd:bs.drop n=0::bs.drop (n+1):=by
  rw[List.drop_eq_getElem_cons hn]
  simp[hn]at hc
  rw[hc]
 rw[hd,aa8 (by omega)]at hp
 omega
theorem abI {bs:List Int}{n acc:Nat}{c:Int}(h:Inv bs n acc)(hn:n<bs.length)(hc:bs.getD n 0=c)(h0:0≤c)(h1:c<128)(h2:1≤c∨n=0):
  enc (acc+(c % 128).toNat*128 ^ n)<+:bs∧sz (acc+(c % 128).toNat*128 ^ n)=n+1:=by
 have hd:bs.drop n=c::bs.drop (n+1):=by
  rw[List.drop_eq_getElem_cons hn]
  simp[hn]at hc
  rw[hc]
 have e:(c % 128).toNat=c.toNat:=by omega
 rw[e]
 refine⟨(h.2.1 _).2 ⟨c.toNat,by omega,rfl,?_⟩,?_⟩
 ·rw[hd,aa8 h1];omega
 ·rw[h.2.2.1 _ (by omega),iA (by omega)]
theorem aps {bs:List Int}{n acc:Nat}{c:Int}(h:Inv bs n acc)(hn:n≤8)(_h0:0≤c):acc+(c % 128).toNat*128 ^ n<18446744073709551616:=by
 have hp:128 ^ n≤128 ^ 8:=Nat.pow_le_pow_right (by omega) hn
 have h8:(128:Nat) ^ 8=72057594037927936:=by decide
 have:(c % 128).toNat*128 ^ n≤127*128 ^ n:=Nat.mul_le_mul_right _ (by omega)
 have:=h.1
 omega
theorem akL {bs:List Int}{acc:Nat}{c:Int}(h:Inv bs 9 acc)(h0:0≤c)(h1:c≤1):acc+(c % 128).toNat*128 ^ 9<18446744073709551616:=by
 have h8:(128:Nat) ^ 9=9223372036854775808:=by decide
 have:=h.1
 omega
end Go.Proofs.YtmngcecomcadkaaGreatDoor.Vm
namespace Go.Proofs.YtmngcecomcadkaaGreatDoor.Om
open Vm
def ints (l:List UInt8):List Int:=l.map fun c=>(c.toNat:Int)
theorem iR (l:List UInt8):(ints l).length=l.length:=by simp[ints]
theorem zS:∀{a b:List UInt8},ints a=ints b→a=b
 |[],[],_=>rfl
 |[],_::_,h=>by simp[ints]at h
 |_::_,[],h=>by simp[ints]at h
 |x::a,y::b,h=>by
  simp only[ints,List.map_cons,List.cons.injEq]at h
  have h1:x.toNat=y.toNat:=by omega
  rw[UInt8.toNat_inj.1 h1,zS (a:=a) (b:=b) h.2]
def iH (l:List Int):List UInt8:=l.map fun z=>UInt8.ofNat z.toNat
theorem acM {l:List Int}(h:∀z∈l,0≤z∧z<256):ints (iH l)=l:=by
 simp only[iH,ints,List.map_map]
 conv=>rhs;rw[←List.map_id l]
 apply List.map_congr_left
 intro z hz
 have:=h z hz
 simp
 omega
theorem jS (l:List Int):(iH l).length=l.length:=by simp[iH]
def chk (p:Bool) (k v:List UInt8):Int:=if 1≤k.length∧k.length≤16∧v.length≤32∧(p=true∨v=[])then 0 else 2
theorem fZ {p:Bool}{k v:List UInt8}(h:1≤k.length∧k.length≤16∧v.length≤32∧(p=true∨v=[])):chk p k v=0:=by unfold chk;rw[if_pos h]
theorem ik {p:Bool}{k v:List UInt8}(h:¬(1≤k.length∧k.length≤16∧v.length≤32∧(p=true∨v=[]))):chk p k v=2:=by unfold chk;rw[if_neg h]
theorem jf {p:Bool}{k v:List UInt8}(h:chk p k v=0):1≤k.length∧k.length≤16∧v.length≤32∧(p=true∨v=[]):=by
 unfold chk at h
 split at h
 ·assumption
 ·simp at h
theorem yD (p:Bool)(k v:List UInt8):chk p k v=0∨chk p k v=2:=by unfold chk;split<;>simp
def cnt (s:List UInt8):List Int:=enc s.length++ints s
def eG (p:Bool) (k v:List UInt8):List Int:=(if p then 1 else 0)::(cnt k++if p then cnt v else [])
theorem lU (s:List UInt8):(cnt s).length=sz s.length+s.length:=by simp[cnt,iR,sz]
theorem aex {s:List UInt8}(h:s.length≤32):(cnt s).length≤33:=by
 rw[lU,iA (by omega)];omega
theorem vB {p:Bool}{k v:List UInt8}(h:chk p k v=0):(eG p k v).length≤51:=by
 have h:=jf h
 have h1:=lU k
 have h2:=lU v
 rw[iA (by omega)]at h1 h2
 unfold eG
 cases p<;>simp<;>omega
theorem anT {s t:List UInt8}{bs:List Int}(h:cnt s<+:bs)(k:cnt t<+:bs):s=t:=by
 have h1:enc s.length<+:bs:=(List.prefix_append _ _).trans h
 have k1:enc t.length<+:bs:=(List.prefix_append _ _).trans k
 have e:=bQ bs _ _ h1 k1
 have hl:(cnt s).length=(cnt t).length:=by rw[lU,lU,e]
 have:cnt s=cnt t:=by
  rw[List.prefix_iff_eq_take]at h k
  rw[h,k,hl]
 unfold cnt at this
 rw[e]at this
 exact zS (List.append_cancel_left this)
def pg (bs:List Int) (most:Nat) (s:List UInt8) (n:Nat) (e:Int):Prop:=
 (e=0∧s.length≤most∧cnt s<+:bs∧n=(cnt s).length)∨(e=5∧s=[]∧n=0∧∀t:List UInt8,t.length≤most→¬cnt t<+:bs)
def afU (bs:List Int) (p:Bool) (k v:List UInt8):List Int:=if chk p k v=0 then bs++eG p k v else []
theorem agO {bs:List Int}{p:Bool}{k v:List UInt8}(h:chk p k v=0):afU bs p k v=bs++eG p k v:=by unfold afU;rw[if_pos h]
theorem asa {bs:List Int}{p:Bool}{k v:List UInt8}(h:chk p k v=2):afU bs p k v=[]:=by unfold afU;rw[if_neg (by omega)]
end Go.Proofs.YtmngcecomcadkaaGreatDoor.Om
namespace Go.Proofs.YtmngcecomcadkaaGreatDoor.Bm
open Vm Om
structure Ov where
 p:Bool
 k:ByteArray
 v:ByteArray
def Ov.kl (o:Ov):List UInt8:=o.k.data.toList
def Ov.vl (o:Ov):List UInt8:=o.v.data.toList
def Ov.c (o:Ov):Int:=chk o.p o.kl o.vl
def Ov.bit (o:Ov):Nat:=if o.p then 1 else 0
theorem yB {a b:ByteArray}(h:a.data.toList=b.data.toList):a=b:=by
 obtain⟨⟨a⟩⟩:=a
 obtain⟨⟨b⟩⟩:=b
 simp at h
 rw[h]
theorem Ov.eq {o q:Ov}(h1:o.p=q.p)(h2:o.kl=q.kl)(h3:o.vl=q.vl):o=q:=by
 obtain⟨p,k,v⟩:=o
 obtain⟨p',k',v'⟩:=q
 have e2:k=k':=yB h2
 have e3:v=v':=yB h3
 have e1:p=p':=h1
 rw[e1,e2,e3]
def com:List UInt8→List UInt8→Nat
 |x::a,y::b=>if x=y then com a b+1 else 0
 |_,_=>0
theorem wC:∀(a b:List UInt8),com a b≤a.length∧com a b≤b.length∧b.take (com a b)=a.take (com a b)
 |[],b=>by simp[com]
 |x::a,[]=>by simp[com]
 |x::a,y::b=>by
  have:=wC a b
  unfold com
  split
  ·rename_i h
   subst h
   simp[this.1,this.2.1,this.2.2]
  ·simp
theorem aas:∀(a b:List UInt8) (n:Nat),n≤a.length→n≤b.length→a.take n=b.take n→(n=a.length∨n=b.length∨a[n]?≠b[n]?)→com a b=n
 |[],b,n,h1,h2,h3,h4=>by simp at h1;subst h1;simp[com]
 |x::a,[],n,h1,h2,h3,h4=>by simp at h2;subst h2;simp[com]
 |x::a,y::b,0,h1,h2,h3,h4=>by
  simp at h4
  unfold com
  rw[if_neg h4]
 |x::a,y::b,n+1,h1,h2,h3,h4=>by
  simp at h1 h2 h3 h4
  obtain⟨rfl,h3⟩:=h3
  unfold com
  rw[if_pos rfl,aas a b n h1 h2 h3 h4]
def first:List Ov→Int
 |[]=>0
 |o::r=>if o.c=0 then first r else 2
theorem xJ:∀(l:List Ov),first l=0∨first l=2
 |[]=>.inl rfl
 |o::r=>by unfold first;split;exact xJ r;exact .inr rfl
theorem ug:∀{l:List Ov},first l=0→∀o∈l,o.c=0
 |[],_,o,ho=>by simp at ho
 |q::r,h,o,ho=>by
  unfold first at h
  split at h
  ·rcases List.mem_cons.1 ho with rfl|ho
   ·assumption
   ·exact ug h o ho
  ·simp at h
theorem ry:∀{l:List Ov},(∀o∈l,o.c=0)→first l=0
 |[],_=>rfl
 |q::r,h=>by
  unfold first
  rw[if_pos (h q (by simp)),ry fun o ho=>h o (by simp[ho])]
theorem ada {l:List Ov}{o:Ov}(ho:o∈l)(h:o.c≠0):first l=2:=by
 rcases xJ l with h'|h'
 ·exact absurd (ug h' o ho) h
 ·exact h'
def dY (l:List Ov):Int:=if l.length=0 then 2 else if 8<l.length then 3 else first l
theorem akB {l:List Ov}(h:8<l.length):dY l=3:=by unfold dY;rw[if_neg (by omega),if_pos h]
theorem anP {l:List Ov}(h:l.length≠0)(h':¬8<l.length):dY l=first l:=by unfold dY;rw[if_neg h,if_neg h']
theorem dO {l:List Ov}(h:dY l=0):1≤l.length∧l.length≤8∧∀o∈l,o.c=0:=by
 unfold dY at h
 split at h
 ·simp at h
 ·split at h
  ·simp at h
  ·exact⟨by omega,by omega,ug h⟩
theorem amb (l:List Ov):dY l=0∨dY l=2∨dY l=3:=by
 unfold dY
 split
 ·simp
 ·split
  ·simp
  ·rcases xJ l with h|h<;>simp[h]
def mJ (kind sh:Nat) (rest:List UInt8):List Int:=enc kind++(enc sh++(enc rest.length++ints rest))
def fQ (ah:List UInt8) (o:Ov):List Int:=mJ o.bit (com ah o.kl) (o.kl.drop (com ah o.kl))++if o.p then cnt o.vl else []
def eY (ah:List UInt8):List Ov→List Int
 |[]=>[]
 |o::r=>fQ ah o++eY o.kl r
def eD (l:List Ov):List Int:=enc l.length++eY [] l
def aeJ (bs:List Int) (l:List Ov):List Int:=if dY l=0 then bs++eD l else []
theorem ahI {bs:List Int}{l:List Ov}(h:dY l=0):aeJ bs l=bs++eD l:=by unfold aeJ;rw[if_pos h]
theorem ar7 {bs:List Int}{l:List Ov}(h:dY l≠0):aeJ bs l=[]:=by unfold aeJ;rw[if_neg h]
theorem bz {A X bs:List Int}:A++X<+:bs↔A<+:bs∧X<+:bs.drop A.length:=by
 constructor
 ·intro h
  refine⟨(List.prefix_append _ _).trans h,?_⟩
  obtain⟨r,rfl⟩:=h
  rw[List.append_assoc,List.drop_left]
  exact List.prefix_append _ _
 ·rintro⟨⟨r,rfl⟩,h⟩
  rw[List.drop_left]at h
  exact(List.prefix_append_right_inj _).2 h
theorem am7 {s t:List UInt8}{bs:List Int}(h:ints s<+:bs)(k:ints t<+:bs)(hl:s.length=t.length):s=t:=by
 rw[List.prefix_iff_eq_take]at h k
 apply zS
 rw[h,k,iR,iR,hl]
theorem wO {a b c d:Nat}{r s:List UInt8}{bs:List Int}(h:mJ a b r<+:bs)(g:mJ c d s<+:bs):a=c∧b=d∧r=s:=by
 unfold mJ at h g
 rw[bz,bz,bz]at h g
 obtain⟨h1,h2,h3,h4⟩:=h
 obtain⟨g1,g2,g3,g4⟩:=g
 obtain rfl:=bQ _ _ _ h1 g1
 obtain rfl:=bQ _ _ _ h2 g2
 have e:=bQ _ _ _ h3 g3
 rw[e]at h4
 exact⟨rfl,rfl,am7 h4 g4 e⟩
def Ov.shape (o:Ov):Prop:=o.p=true∨o.vl=[]
theorem Ov.apE {o:Ov}(h:o.c=0):o.shape:=(jf h).2.2.2
theorem af4 (ah:List UInt8)(k:List UInt8):ah.take (com ah k)++k.drop (com ah k)=k:=by
 rw[←(wC ah k).2.2,List.take_append_drop]
theorem atT {o q:Ov}(h:o.bit=q.bit):o.p=q.p:=by
 unfold Ov.bit at h
 cases h1:o.p<;>cases h2:q.p<;>simp_all
theorem aml {ah:List UInt8}{o q:Ov}{bs:List Int}(h:fQ ah o<+:bs)(g:fQ ah q<+:bs)(ho:o.shape)(hq:q.shape):o=q:=by
 unfold fQ at h g
 rw[bz]at h g
 obtain⟨h1,h2⟩:=h
 obtain⟨g1,g2⟩:=g
 obtain⟨e1,e2,e3⟩:=wO h1 g1
 have ek:o.kl=q.kl:=by
  rw[←af4 ah o.kl,←af4 ah q.kl,e2]
  rw[e2]at e3
  rw[e3]
 have ep:=atT e1
 refine Ov.eq ep ek ?_
 have el:o.kl.length=q.kl.length:=by rw[ek]
 rw[e1,ek]at h2
 cases hp:o.p
 ·have:=ho
  have:=hq
  unfold Ov.shape at*
  rw[←ep]at*
  simp_all
 ·rw[hp]at h2
  rw[←ep,hp]at g2
  simp only[if_true]at h2 g2
  exact anT h2 g2
theorem wu:∀(ah:List UInt8) (l m:List Ov) (bs:List Int),l.length=m.length→(∀o∈l,o.shape)→(∀o∈m,o.shape)→eY ah l<+:bs→eY ah m<+:bs→l=m
 |_,[],[],_,_,_,_,_,_=>rfl
 |_,[],_::_,_,h,_,_,_,_=>by simp at h
 |_,_::_,[],_,h,_,_,_,_=>by simp at h
 |ah,o::l,q::m,bs,hl,h1,h2,h,g=>by
  unfold eY at h g
  rw[bz]at h g
  obtain rfl:=aml h.1 g.1 (h1 o (by simp)) (h2 q (by simp))
  rw[wu o.kl l m _ (by simpa using hl) (fun x hx=>h1 x (by simp[hx])) (fun x hx=>h2 x (by simp[hx])) h.2 g.2]
theorem xM {l m:List Ov}{bs:List Int}(h:eD l<+:bs)(g:eD m<+:bs)(hl:∀o∈l,o.shape)(hm:∀o∈m,o.shape):l=m:=by
 unfold eD at h g
 rw[bz]at h g
 have e:=bQ _ _ _ h.1 g.1
 rw[e]at h
 exact wu [] l m _ e hl hm h.2 g.2
def dH (ah:List UInt8):List Ov→List UInt8
 |[]=>ah
 |o::r=>dH o.kl r
theorem jE:∀(ah:List UInt8) (l:List Ov) (o:Ov),dH ah (l++[o])=o.kl
 |_,[],_=>rfl
 |_,q::l,o=>jE q.kl l o
theorem rJ:∀(ah:List UInt8) (l:List Ov) (o:Ov),eY ah (l++[o])=eY ah l++fQ (dH ah l) o
 |_,[],_=>by simp[eY,dH]
 |ah,q::l,o=>by
  show fQ ah q++eY q.kl (l++[o])=fQ ah q++eY q.kl l++fQ (dH q.kl l) o
  rw[rJ q.kl l o,List.append_assoc]
theorem aeW:∀(ah:List UInt8) (l m:List Ov),eY ah (l++m)=eY ah l++eY (dH ah l) m
 |_,[],_=>rfl
 |ah,q::l,m=>by
  show fQ ah q++eY q.kl (l++m)=fQ ah q++eY q.kl l++eY (dH q.kl l) m
  rw[aeW q.kl l m,List.append_assoc]
def amQ (bs:List Int) (l:List Ov) (n e:Int):Prop:=
 (e=0∧dY l=0∧eD l<+:bs∧n=(eD l).length)∨(e=5∧l=[]∧n=0∧∀m,dY m=0→¬eD m<+:bs)
theorem shapes {l:List Ov}(h:dY l=0):∀o∈l,o.shape:=fun o ho=>Ov.apE ((dO h).2.2 o ho)
def SS (bs:List Int) (most a:Nat) (bad:Bool) (u a':Nat) (bad':Bool):Prop:=
 (bad=true∧bad'=true∧u=0∧a'=a)∨(bad=false∧bad'=true∧u=0∧a'=a∧∀x:Nat,x≤most→¬enc x<+:bs.drop a)∨(bad=false∧bad'=false∧u≤most∧enc u<+:bs.drop a∧a'=a+sz u)
def BS (bs:List Int) (n a:Nat) (bad:Bool) (zs:List Int) (a':Nat) (bad':Bool):Prop:=
 ((bad=true∨bs.length-a<n)∧bad'=true∧zs=[]∧a'=a)∨(bad=false∧n≤bs.length-a∧bad'=false∧zs=(bs.drop a).take n∧a'=a+n)
theorem ui {bs:List Int}{most a u a':Nat}{bad bad':Bool}(h:SS bs most a bad u a' bad'):u≤most:=by
 rcases h with⟨_,_,h,_⟩|⟨_,_,h,_⟩|⟨_,_,h,_⟩<;>omega
theorem adY {bs zs:List Int}{n a a':Nat}{bad bad':Bool}(h:BS bs n a bad zs a' bad'):zs.length≤n:=by
 rcases h with⟨_,_,h,_⟩|⟨_,_,_,h,_⟩
 ·simp[h]
 ·rw[h,List.length_take];omega
theorem tT {bs:List Int}{most a u a':Nat}{bad bad':Bool}(h:SS bs most a bad u a' bad')(hb:bad=true):bad'=true:=by
 rcases h with⟨_,h,_⟩|⟨_,h,_⟩|⟨h,_⟩
 ·exact h
 ·exact h
 ·rw[hb]at h;simp at h
theorem sH {bs zs:List Int}{n a a':Nat}{bad bad':Bool}(h:BS bs n a bad zs a' bad')(hb:bad=true):bad'=true:=by
 rcases h with⟨_,h,_⟩|⟨h,_⟩
 ·exact h
 ·rw[hb]at h;simp at h
def No (bs:List Int) (a:Nat) (ah:List UInt8):Prop:=∀q:Ov,q.c=0→¬fQ ah q<+:bs.drop a
theorem pY {ah:List UInt8}{q:Ov}{bs:List Int}{a:Nat}(h:fQ ah q<+:bs.drop a):
  enc q.bit<+:bs.drop a∧enc (com ah q.kl)<+:bs.drop (a+sz q.bit)∧enc (q.kl.length-com ah q.kl)<+:bs.drop (a+sz q.bit+sz (com ah q.kl))∧
  ints (q.kl.drop (com ah q.kl))<+:bs.drop (a+sz q.bit+sz (com ah q.kl)+sz (q.kl.length-com ah q.kl)):=by
 unfold fQ mJ at h
 rw[bz,bz,bz,bz]at h
 obtain⟨⟨h1,h2,h3,h4⟩,_⟩:=h
 simp only[List.drop_drop,List.length_drop]at h2 h3 h4
 exact⟨h1,h2,h3,h4⟩
def PS (bs:List Int) (a:Nat) (bad:Bool) (ah:List UInt8) (kind sh n:Nat) (zs:List Int) (a4:Nat) (jo:Bool):Prop:=
 (jo=false∧bad=false∧kind≤1∧sh≤ah.length∧zs.length=n∧mJ kind sh (iH zs)<+:bs.drop a∧a4=a+(mJ kind sh (iH zs)).length)∨(jo=true∧(bad=false→No bs a ah))
theorem alx (q:Ov):q.bit≤1:=by unfold Ov.bit;split<;>omega
theorem axD {bs:List Int}(hb:∀z∈bs,0≤z∧z<256){a a1 a2 a3 a4 kind sh n M:Nat}{bad iU jB qp jo:Bool}{ah:List UInt8}{zs:List Int}
  (h1:SS bs 1 a bad kind a1 iU) (h2:SS bs ah.length a1 iU sh a2 jB) (h3:SS bs M a2 jB n a3 qp) (h4:BS bs n a3 qp zs a4 jo) (hM:M=16∨M=16-sh):PS bs a bad ah kind sh n zs a4 jo:=by
 rcases h1 with⟨b1,c1,_⟩|⟨b1,c1,_,_,h1⟩|⟨b1,c1,u1,p1,e1⟩
 ·exact .inr ⟨sH h4 (tT h3 (tT h2 c1)),fun h=>by rw[b1]at h;simp at h⟩
 ·refine .inr ⟨sH h4 (tT h3 (tT h2 c1)),fun _ q _ hp=>h1 q.bit (alx q) (pY hp).1⟩
 ·rcases h2 with⟨b2,c2,_⟩|⟨b2,c2,_,_,h2⟩|⟨b2,c2,u2,p2,e2⟩
  ·rw[c1]at b2;simp at b2
  ·refine .inr ⟨sH h4 (tT h3 c2),fun _ q _ hp=>?_⟩
   obtain⟨g1,g2,_⟩:=pY hp
   have:=bQ _ _ _ p1 g1
   rw[←this,←e1]at g2
   exact h2 _ (wC ah q.kl).1 g2
  ·rcases h3 with⟨b3,c3,_⟩|⟨b3,c3,_,_,h3⟩|⟨b3,c3,u3,p3,e3⟩
   ·rw[c2]at b3;simp at b3
   ·refine .inr ⟨sH h4 c3,fun _ q hq hp=>?_⟩
    obtain⟨g1,g2,g3,_⟩:=pY hp
    have w1:=bQ _ _ _ p1 g1
    rw[←w1,←e1]at g2 g3
    have w2:=bQ _ _ _ p2 g2
    rw[←w2,←e2]at g3
    have:=(jf hq).2.1
    exact h3 _ (by omega) g3
   ·rcases h4 with⟨b4,c4,_⟩|⟨b4,c4,d4,e4,f4⟩
    ·refine .inr ⟨c4,fun _ q hq hp=>?_⟩
     obtain⟨g1,g2,g3,g4⟩:=pY hp
     have w1:=bQ _ _ _ p1 g1
     rw[←w1,←e1]at g2 g3 g4
     have w2:=bQ _ _ _ p2 g2
     rw[←w2,←e2]at g3 g4
     have w3:=bQ _ _ _ p3 g3
     rw[←w3,←e3]at g4
     have hl:=g4.length_le
     rw[iR,List.length_drop,List.length_drop]at hl
     rcases b4 with b4|b4
     ·rw[c3]at b4;simp at b4
     ·omega
    ·have hl:zs.length=n:=by rw[e4,List.length_take,List.length_drop];omega
     have hbz:ints (iH zs)=zs:=acM fun z hz=>hb z (by rw[e4]at hz;exact List.mem_of_mem_drop (List.mem_of_mem_take hz))
     refine .inl ⟨d4,b1,u1,u2,hl,?_,?_⟩
     ·unfold mJ
      rw[bz,bz,bz,hbz,jS,hl]
      simp only[List.drop_drop]
      refine⟨p1,?_,?_,?_⟩
      ·rw[e1]at p2;exact p2
      ·rw[e2,e1]at p3;exact p3
      ·rw[e3,e2,e1]at e4
       rw[e4]
       exact List.take_prefix _ _
     ·unfold mJ
      simp only[List.length_append,iR,jS,hl]
      unfold sz at e1 e2 e3
      omega
def OS (bs:List Int) (a:Nat) (bad:Bool) (ah:List UInt8) (o:Ov) (a':Nat) (bad':Bool):Prop:=
 (bad=false∧bad'=false∧fQ ah o<+:bs.drop a∧a'=a+(fQ ah o).length∧o.shape)∨(bad'=true∧(bad=false→No bs a ah))
theorem ab7 {sh:Nat}{ah rest:List UInt8}(h:sh≤ah.length):(ah.take sh++rest).drop sh=rest:=by
 have:(ah.take sh).length=sh:=by rw[List.length_take];omega
 rw[List.drop_append_of_le_length (by omega),List.drop_of_length_le (by omega),List.nil_append]
theorem avD {bs:List Int}{a a4 kind sh n:Nat}{bad:Bool}{ah:List UInt8}{zs:List Int}(h:PS bs a bad ah kind sh n zs a4 false)(hc:com ah (ah.take sh++iH zs)≠sh):No bs a ah:=by
 rcases h with⟨_,_,_,_,_,h,_⟩|⟨h,_⟩
 ·intro q hq hp
  unfold fQ at hp
  rw[bz]at hp
  obtain⟨_,e2,e3⟩:=wO h hp.1
  apply hc
  rw[e3,e2,af4]
 ·simp at h
theorem atJ {bs:List Int}{a a4 sh n:Nat}{bad:Bool}{ah:List UInt8}{zs:List Int}{o:Ov}(h:PS bs a bad ah 0 sh n zs a4 false)(hp:o.p=false)(hk:o.kl=ah.take sh++iH zs)(hv:o.vl=[])(hc:com ah o.kl=sh):OS bs a bad ah o a4 false:=by
 rcases h with⟨_,h1,_,h2,h3,h4,h5⟩|⟨h,_⟩
 ·have e:fQ ah o=mJ 0 sh (iH zs):=by
   unfold fQ Ov.bit
   rw[hp,hc,hk,ab7 h2]
   simp
  exact .inl ⟨h1,rfl,by rw[e];exact h4,by rw[e];exact h5,.inr hv⟩
 ·simp at h
theorem au4 {bs:List Int}(hb:∀z∈bs,0≤z∧z<256){a a4 a5 a6 sh n m:Nat}{bad uL afS:Bool}{ah:List UInt8}{zs ys:List Int}{o:Ov}(h:PS bs a bad ah 1 sh n zs a4 false)(hp:o.p=true)(hk:o.kl=ah.take sh++iH zs)(hv:o.vl=iH ys)(hc:com ah o.kl=sh)
  (g1:SS bs 32 a4 false m a5 uL) (g2:BS bs m a5 uL ys a6 afS):OS bs a bad ah o a6 afS:=by
 rcases h with⟨_,h1,_,h2,h3,h4,h5⟩|⟨h,_⟩
 ·have e:fQ ah o=mJ 1 sh (iH zs)++cnt (iH ys):=by
   unfold fQ Ov.bit
   rw[hp,hc,hk,ab7 h2,hv]
   simp
  have none:(∀t:List UInt8,t.length≤32→¬cnt t<+:bs.drop a4)→No bs a ah:=by
   intro hn q hq hpq
   have hpq0:=hpq
   unfold fQ at hpq
   rw[bz]at hpq
   obtain⟨e1,e2,e3⟩:=wO h4 hpq.1
   have hpp:q.p=true:=by
    unfold Ov.bit at e1
    cases hh:q.p
    ·rw[hh]at e1;simp at e1
    ·rfl
   have hq2:=hpq.2
   rw[hpp,List.drop_drop,←e1,←e3,←e2]at hq2
   rw[if_pos rfl,←h5]at hq2
   exact hn q.vl (jf hq).2.2.1 hq2
  rcases g1 with⟨b1,_⟩|⟨b1,c1,_,_,g1⟩|⟨b1,c1,u1,p1,e1⟩
  ·simp at b1
  ·refine .inr ⟨sH g2 c1,fun _=>none fun t ht hp=>?_⟩
   unfold cnt at hp
   rw[bz]at hp
   exact g1 _ ht hp.1
  ·rcases g2 with⟨b2,c2,_⟩|⟨b2,c2,d2,e2,f2⟩
   ·refine .inr ⟨c2,fun _=>none fun t ht hp=>?_⟩
    unfold cnt at hp
    rw[bz,List.drop_drop]at hp
    have w:=bQ _ _ _ p1 hp.1
    have hl:=hp.2.length_le
    rw[iR,List.length_drop]at hl
    rcases b2 with b2|b2
    ·rw[c1]at b2;simp at b2
    ·unfold sz at e1
     rw[w]at e1 b2
     omega
   ·have hl:ys.length=m:=by rw[e2,List.length_take,List.length_drop];omega
    have hby:ints (iH ys)=ys:=acM fun z hz=>hb z (by rw[e2]at hz;exact List.mem_of_mem_drop (List.mem_of_mem_take hz))
    refine .inl ⟨h1,d2,?_,?_,.inl hp⟩
    ·rw[e,bz,List.drop_drop,←h5]
     refine⟨h4,?_⟩
     unfold cnt
     rw[bz,List.drop_drop,jS,hl,hby]
     refine⟨p1,?_⟩
     unfold sz at e1
     rw[←e1,e2]
     exact List.take_prefix _ _
    ·rw[e,List.length_append,←Nat.add_assoc,←h5,f2,e1,lU,jS,hl]
     omega
 ·simp at h
def KS (bs:List Int) (a1:Nat) (iU:Bool) (ah key:List UInt8) (a':Nat) (bad':Bool):Prop:=
 ∃sh n zs a2 jB a3 qp jo,SS bs ah.length a1 iU sh a2 jB∧SS bs (16-sh) a2 jB n a3 qp∧BS bs n a3 qp zs a' jo∧key=ah.take sh++iH zs∧bad'=(jo||decide (com ah key≠sh))
theorem aqL {bs:List Int}(hb:∀z∈bs,0≤z∧z<256){a a1 a' kind:Nat}{bad iU bad':Bool}{ah key:List UInt8}(h1:SS bs 1 a bad kind a1 iU)(h:KS bs a1 iU ah key a' bad'):
  (bad'=true∧(bad=false→No bs a ah))∨(bad'=false∧∃sh n zs,PS bs a bad ah kind sh n zs a' false∧key=ah.take sh++iH zs∧com ah key=sh):=by
 obtain⟨sh,n,zs,a2,jB,a3,qp,jo,h2,h3,h4,hk,e⟩:=h
 have hp:=axD hb h1 h2 h3 h4 (.inr rfl)
 cases jo
 ·by_cases hc:com ah key=sh
  ·exact .inr ⟨by rw[e];simpa using hc,sh,n,zs,hp,hk,hc⟩
  ·refine .inl ⟨by rw[e];simpa using hc,fun _=>avD hp (by rw[←hk];exact hc)⟩
 ·rcases hp with⟨h,_⟩|⟨_,h⟩
  ·simp at h
  ·exact .inl ⟨by rw[e];rfl,h⟩
theorem avn {bs:List Int}(hb:∀z∈bs,0≤z∧z<256){a a1 a':Nat}{bad iU bad':Bool}{ah key:List UInt8}{o:Ov}(h1:SS bs 1 a bad 0 a1 iU)(h:KS bs a1 iU ah key a' bad')(hp:o.p=false)(hk:o.kl=key)(hv:o.vl=[]):OS bs a bad ah o a' bad':=by
 rcases aqL hb h1 h with⟨g1,g2⟩|⟨g1,sh,n,zs,g2,g3,g4⟩
 ·exact .inr ⟨g1,g2⟩
 ·rw[g1]
  exact atJ g2 hp (hk.trans g3) hv (by rw[hk];exact g4)
theorem aw6 {bs:List Int}(hb:∀z∈bs,0≤z∧z<256){a a1 a4 a5 a6 m:Nat}{bad iU jo uL afS:Bool}{ah key:List UInt8}{ys:List Int}{o:Ov}(h1:SS bs 1 a bad 1 a1 iU)(h:KS bs a1 iU ah key a4 jo)(hp:o.p=true)(hk:o.kl=key)(hv:o.vl=iH ys)
  (g1:SS bs 32 a4 jo m a5 uL) (g2:BS bs m a5 uL ys a6 afS):OS bs a bad ah o a6 afS:=by
 rcases aqL hb h1 h with⟨k1,k2⟩|⟨k1,sh,n,zs,k2,k3,k4⟩
 ·exact .inr ⟨sH g2 (tT g1 k1),k2⟩
 ·rw[k1]at g1
  exact au4 hb k2 hp (hk.trans k3) hv (by rw[hk];exact k4) g1 g2
theorem akV {bs:List Int}{a1 a':Nat}{iU bad':Bool}{ah key:List UInt8}(h:KS bs a1 iU ah key a' bad')(hah:ah.length≤16):key.length≤16:=by
 obtain⟨sh,n,zs,a2,jB,a3,qp,jo,h2,h3,h4,hk,_⟩:=h
 have e1:=ui h2
 have e2:=ui h3
 have e3:=adY h4
 rw[hk,List.length_append,jS,List.length_take]
 omega
def NB (bs:List Int):Prop:=∀m:List Ov,dY m=0→¬eD m<+:bs
def LS (bs:List Int) (c:Nat) (l:List Ov) (a:Nat) (bad:Bool) (ah:List UInt8):Prop:=
 (bad=false∧c≤8∧enc c<+:bs∧eY [] l<+:bs.drop (sz c)∧a=sz c+(eY [] l).length∧ah=dH [] l∧∀o∈l,o.shape)∨(bad=true∧NB bs)
theorem anL {bs:List Int}{c a:Nat}{bad:Bool}(h:SS bs 8 0 false c a bad):LS bs c [] a bad []:=by
 rcases h with⟨h,_⟩|⟨_,h1,_,_,h⟩|⟨_,h1,h2,h3,h4⟩
 ·simp at h
 ·refine .inr ⟨h1,fun m hm hp=>?_⟩
  unfold eD at hp
  rw[bz]at hp
  exact h _ (dO hm).2.1 (by simpa using hp.1)
 ·refine .inl ⟨h1,h2,by simpa using h3,by simp[eY],by simp[eY,h4],rfl,by simp⟩
theorem arD {bs:List Int}{c a a':Nat}{bad bad':Bool}{l:List Ov}{ah:List UInt8}{o:Ov}(h:LS bs c l a bad ah)(hl:l.length<c)(g:OS bs a bad ah o a' bad'):LS bs c (l++[o]) a' bad' o.kl:=by
 rcases h with⟨rfl,h1,h2,h3,h4,h5,h6⟩|⟨rfl,h⟩
 ·rcases g with⟨_,g1,g2,g3,g4⟩|⟨g1,g2⟩
  ·refine .inl ⟨g1,h1,h2,?_,?_,(jE _ _ _).symm,?_⟩
   ·rw[rJ,bz,List.drop_drop,←h4,←h5]
    exact⟨h3,g2⟩
   ·rw[rJ,List.length_append,←h5,g3,h4,Nat.add_assoc]
   ·intro x hx
    rcases List.mem_append.1 hx with hx|hx
    ·exact h6 x hx
    ·rw[List.mem_singleton.1 hx];exact g4
  ·refine .inr ⟨g1,fun m hm hp=>?_⟩
   unfold eD at hp
   rw[bz]at hp
   have e:=bQ _ _ _ h2 hp.1
   have hp2:=hp.2
   have hlm:l.length<m.length:=by omega
   have hsplit:m=m.take l.length++m[l.length]::m.drop (l.length+1):=by
    rw[List.getElem_cons_drop,List.take_append_drop]
   rw[hsplit,aeW,bz]at hp2
   have hmem:∀x∈m.take l.length,x.shape:=fun x hx=>shapes hm x (List.mem_of_mem_take hx)
   have hsz:(enc m.length).length=sz c:=by rw[←e];rfl
   rw[←hsplit,hsz]at hp2
   have e2:=wu [] l (m.take l.length) _ (by rw[List.length_take];omega) h6 hmem h3 hp2.1
   have hp3:=hp2.2
   rw[←e2,List.drop_drop,←h4,←h5]at hp3
   show False
   unfold eY at hp3
   rw[bz]at hp3
   exact g2 rfl _ ((dO hm).2.2 _ (List.getElem_mem _)) hp3.1
 ·rcases g with⟨g,_⟩|⟨g1,_⟩
  ·simp at g
  ·exact .inr ⟨g1,h⟩
theorem as5 {bs:List Int}{c a:Nat}{l:List Ov}{ah:List UInt8}(h:LS bs c l a false ah)(hl:l.length=c)(hc:dY l=0):amQ bs l a 0:=by
 rcases h with⟨_,h1,h2,h3,h4,_⟩|⟨h,_⟩
 ·have e:eD l=enc c++eY [] l:=by unfold eD;rw[hl]
  refine .inl ⟨rfl,hc,?_,?_⟩
  ·rw[e,bz];exact⟨h2,h3⟩
  ·rw[e,List.length_append,h4];rfl
 ·simp at h
theorem ajN {bs:List Int}{c a:Nat}{l:List Ov}{ah:List UInt8}{bad:Bool}(h:LS bs c l a bad ah)(hl:bad=false→l.length=c)(hc:bad=true∨dY l≠0):amQ bs [] 0 5:=by
 refine .inr ⟨rfl,rfl,rfl,?_⟩
 rcases h with⟨hb,h1,h2,h3,h4,_,h6⟩|⟨_,h⟩
 ·rcases hc with hc|hc
  ·rw[hc]at hb;simp at hb
  ·intro m hm hp
   have e:eD l<+:bs:=by
    unfold eD
    rw[hl hb,bz]
    exact⟨h2,h3⟩
   have:=xM e hp h6 (shapes hm)
   rw[this]at hc
   exact hc hm
 ·exact h
def sum:List Ov→Nat
 |[]=>0
 |o::r=>(eG o.p o.kl o.vl).length+sum r
theorem asB (ah:List UInt8){o:Ov}(h:o.c=0):(fQ ah o).length≤(eG o.p o.kl o.vl).length+1:=by
 have hh:=jf h
 have hc:=wC ah o.kl
 have hb:=alx o
 unfold fQ mJ eG
 have e1:(enc o.bit).length=1:=by have:=iA (x:=o.bit) (by omega);exact this
 have e2:(enc (com ah o.kl)).length=1:=by have:=iA (x:=com ah o.kl) (by omega);exact this
 have e3:(enc (o.kl.length-com ah o.kl)).length=1:=by have:=iA (x:=o.kl.length-com ah o.kl) (by omega);exact this
 have e4:=lU o.kl
 rw[iA (by omega)]at e4
 simp only[List.length_append,List.length_cons,List.length_drop,e1,e2,e3,e4,iR]
 split<;>simp<;>omega
theorem ab2:∀(ah:List UInt8) (l:List Ov),(∀o∈l,o.c=0)→(eY ah l).length≤sum l+l.length
 |_,[],_=>by simp[eY,sum]
 |ah,o::l,h=>by
  have h1:=asB ah (h o (by simp))
  have h2:=ab2 o.kl l fun x hx=>h x (by simp[hx])
  simp only[eY,sum,List.length_append,List.length_cons]
  omega
theorem arL {l:List Ov}(h:dY l=0):(eD l).length≤9+sum l:=by
 obtain⟨h1,h2,h3⟩:=dO h
 have:=ab2 [] l h3
 have e:(enc l.length).length=1:=by have:=iA (x:=l.length) (by omega);exact this
 unfold eD
 rw[List.length_append,e]
 omega
theorem aea:∀{l:List Ov},(∀o∈l,o.c=0)→sum l≤51*l.length
 |[],_=>by simp[sum]
 |o::l,h=>by
  have h1:=vB (h o (by simp))
  have h2:=aea (l:=l) fun x hx=>h x (by simp[hx])
  simp only[sum,List.length_cons]
  unfold Ov.kl Ov.vl at*
  omega
theorem ajo {l:List Ov}(h:dY l=0):(eD l).length≤420:=by
 have:=arL h
 obtain⟨h1,h2,h3⟩:=dO h
 have:=aea h3
 omega
def eqO (o q:Ov):Bool:=(o.p==q.p)&&(decide (o.kl=q.kl)&&decide (o.vl=q.vl))
theorem sD {o q:Ov}:eqO o q=true↔o=q:=by
 unfold eqO
 constructor
 ·intro h
  simp at h
  exact Ov.eq h.1 h.2.1 h.2.2
 ·rintro rfl
  simp
def sameL:List Ov→List Ov→Bool
 |[],[]=>true
 |o::l,q::m=>eqO o q&&sameL l m
 |_,_=>false
theorem oL:∀{l m:List Ov},sameL l m=true↔l=m
 |[],[]=>by simp[sameL]
 |[],_::_=>by simp[sameL]
 |_::_,[]=>by simp[sameL]
 |o::l,q::m=>by simp[sameL,sD,oL (l:=l) (m:=m)]
theorem uE {l m:List Ov}(h:l≠m):sameL l m=false:=by
 cases hs:sameL l m
 ·rfl
 ·exact absurd (oL.1 hs) h
end Go.Proofs.YtmngcecomcadkaaGreatDoor.Bm
namespace Go.Proofs.YtmngcecomcadkaaGreatDoor.Cm
open Vm Om Bm
set_option linter.unusedVariables false
structure Cv where
 e:Int
 n:Int
 l:List Ov
def chk (e n:Int) (l:List Ov):Int:=if 1≤e∧e≤1048576∧1≤n∧n≤1048576 then dY l else 2
theorem kU {e n:Int}{l:List Ov}(h:1≤e∧e≤1048576∧1≤n∧n≤1048576):chk e n l=dY l:=by unfold chk;rw[if_pos h]
theorem ab3 {e n:Int}{l:List Ov}(h:¬(1≤e∧e≤1048576∧1≤n∧n≤1048576)):chk e n l=2:=by unfold chk;rw[if_neg h]
theorem aO {e n:Int}{l:List Ov}(h:chk e n l=0):1≤e∧e≤1048576∧1≤n∧n≤1048576∧dY l=0:=by
 by_cases hb:1≤e∧e≤1048576∧1≤n∧n≤1048576
 ·rw[kU hb]at h
  exact⟨hb.1,hb.2.1,hb.2.2.1,hb.2.2.2,h⟩
 ·rw[ab3 hb]at h
  simp at h
theorem wB (e n:Int)(l:List Ov):chk e n l=0∨chk e n l=2∨chk e n l=3:=by
 unfold chk
 split
 ·exact amb l
 ·exact .inr (.inl rfl)
def iB (e n:Int) (l:List Ov):List Int:=enc e.toNat++(enc n.toNat++eD l)
def out (e n:Int) (l:List Ov):List Int:=if chk e n l=0 then iB e n l else []
theorem jd {e n:Int}{l:List Ov}(h:chk e n l=0):out e n l=iB e n l:=by unfold out;rw[if_pos h]
theorem oh {e n:Int}{l:List Ov}(h:chk e n l≠0):out e n l=[]:=by unfold out;rw[if_neg h]
theorem gy {x:Int}(h:x≤1048576):(enc x.toNat).length≤3:=nT 2 x.toNat (by omega)
theorem abh {e n:Int}{l:List Ov}(h:chk e n l=0):(iB e n l).length≤430:=by
 obtain⟨_,h1,_,h2,h3⟩:=aO h
 have:=gy h1
 have:=gy h2
 have:=ajo h3
 unfold iB
 simp only[List.length_append]
 omega
theorem xq (e n:Int)(l:List Ov):(out e n l).length≤430:=by
 by_cases h:chk e n l=0
 ·rw[jd h];exact abh h
 ·rw[oh h];simp
theorem aph {e n e' n':Int}{l l':List Ov}(h:chk e n l=0)(h':chk e' n' l'=0)(he:iB e n l=iB e' n' l'):e=e'∧n=n'∧l=l':=by
 obtain⟨h1,h2,h3,h4,h5⟩:=aO h
 obtain⟨g1,g2,g3,g4,g5⟩:=aO h'
 unfold iB at he
 have p1:=bQ (enc e.toNat++(enc n.toNat++eD l)) e.toNat e'.toNat (List.prefix_append _ _) (by rw[he];exact List.prefix_append _ _)
 have e1:e=e':=by omega
 subst e1
 have he2:=List.append_cancel_left he
 have p2:=bQ (enc n.toNat++eD l) n.toNat n'.toNat (List.prefix_append _ _) (by rw[he2];exact List.prefix_append _ _)
 have e2:n=n':=by omega
 subst e2
 have he3:=List.append_cancel_left he2
 exact⟨rfl,rfl,xM (List.prefix_refl _) (by rw[he3];exact List.prefix_refl _) (shapes h5) (shapes g5)⟩
def pg (bs:List Int) (e n:Int) (l:List Ov) (g:Int):Prop:=
 (g=0∧chk e n l=0∧iB e n l=bs)∨(g=5∧e=0∧n=0∧l=[]∧∀e' n' l',chk e' n' l'=0→iB e' n' l'≠bs)
def ajr (bs:List Int):Prop:=∀x:Nat,x≤1048576→¬enc x<+:bs
theorem anZ {bs:List Int}(h:ajr bs):∀e n l,chk e n l=0→iB e n l≠bs:=by
 intro e n l hc he
 obtain⟨h1,h2,_⟩:=aO hc
 exact h e.toNat (by omega) (by rw[←he];exact List.prefix_append _ _)
theorem aev {x:Nat}{bs:List Int}(h:enc x<+:bs):bs=enc x++bs.drop (sz x):=by
 obtain⟨t,rfl⟩:=h
 simp[sz]
theorem ali {bs:List Int}{x:Nat}(hx:enc x<+:bs)(h:ajr (bs.drop (sz x))):∀e n l,chk e n l=0→iB e n l≠bs:=by
 intro e n l hc he
 obtain⟨h1,h2,h3,h4,_⟩:=aO hc
 have p:enc e.toNat<+:bs:=by rw[←he];exact List.prefix_append _ _
 obtain rfl:=bQ _ _ _ hx p
 refine h n.toNat (by omega) ?_
 rw[←he]
 simp[iB,sz]
theorem acg {bs:List Int}{x y:Nat}(hx:enc x<+:bs)(hy:enc y<+:bs.drop (sz x)):bs=enc x++(enc y++bs.drop (sz x+sz y)):=by
 have h1:=aev hx
 have h2:=aev hy
 rw[List.drop_drop]at h2
 rw[←h2]
 exact h1
theorem agG {bs:List Int}{x y:Nat}{e n:Int}{l:List Ov}(hx:enc x<+:bs)(hy:enc y<+:bs.drop (sz x))(hc:chk e n l=0)(he:iB e n l=bs):e=x∧n=y∧eD l=bs.drop (sz x+sz y):=by
 obtain⟨h1,h2,h3,h4,h5⟩:=aO hc
 have p:enc e.toNat<+:bs:=by rw[←he];exact List.prefix_append _ _
 have e1:=bQ _ _ _ hx p
 have q:enc n.toNat<+:bs.drop (sz x):=by rw[←he,e1];simp[iB,sz]
 have e2:=bQ _ _ _ hy q
 refine⟨by omega,by omega,?_⟩
 have hb:=acg hx hy
 rw[←he]at hb
 unfold iB at hb
 rw[e1,e2]at hb
 have:=List.append_cancel_left (List.append_cancel_left hb)
 rw[this,←he,e1,e2,iB]
theorem an0 {bs:List Int}{x y:Nat}(hx:enc x<+:bs)(hy:enc y<+:bs.drop (sz x))(h:∀m,dY m=0→¬eD m<+:bs.drop (sz x+sz y)):∀e n l,chk e n l=0→iB e n l≠bs:=by
 intro e n l hc he
 obtain⟨_,_,h3⟩:=agG hx hy hc he
 exact h l (aO hc).2.2.2.2 (by rw[h3];exact List.prefix_refl _)
theorem ag2 {bs:List Int}{x y:Nat}{m:List Ov}(hx:enc x<+:bs)(hy:enc y<+:bs.drop (sz x))(hm:dY m=0)(hp:eD m<+:bs.drop (sz x+sz y))(h:sz x+sz y+(eD m).length≠bs.length∨chk x y m≠0):∀e n l,chk e n l=0→iB e n l≠bs:=by
 intro e n l hc he
 obtain⟨rfl,rfl,h3⟩:=agG hx hy hc he
 obtain rfl:=xM hp (show eD l<+:_ by rw[h3];exact List.prefix_refl _) (shapes hm) (shapes (aO hc).2.2.2.2)
 rcases h with h|h
 ·apply h
  have:=congrArg List.length he
  simp only[iB,List.length_append,Int.toNat_natCast]at this
  unfold sz
  omega
 ·exact h hc
theorem akd {bs:List Int}{x y:Nat}{m:List Ov}(hx:enc x<+:bs)(hy:enc y<+:bs.drop (sz x))(hp:eD m<+:bs.drop (sz x+sz y))(hl:sz x+sz y+(eD m).length=bs.length):iB x y m=bs:=by
 have h1:=acg hx hy
 have h2:eD m=bs.drop (sz x+sz y):=by
  obtain⟨t,ht⟩:=hp
  have:=congrArg List.length ht
  simp only[List.length_append,List.length_drop]at this
  have:t=[]:=List.eq_nil_of_length_eq_zero (by omega)
  subst this
  simpa using ht
 unfold iB
 rw[Int.toNat_natCast,Int.toNat_natCast,h2]
 exact h1.symm
def fol (ep nu:Int) (i:Nat):List Cv→Int×Int
 |[]=>(0,0)
 |c::r=>if chk c.e c.n c.l≠0 then(chk c.e c.n c.l,i)else if c.n-1≠nu∨c.e<ep then(15,i)else fol c.e c.n (i+1) r
theorem ag4 (ep nu:Int)(i:Nat):fol ep nu i []=(0,0):=rfl
theorem yn {ep nu:Int}{i:Nat}{c:Cv}{r:List Cv}(h:chk c.e c.n c.l≠0):fol ep nu i (c::r)=(chk c.e c.n c.l,(i:Int)):=by simp[fol,h]
theorem xP {ep nu:Int}{i:Nat}{c:Cv}{r:List Cv}(h:chk c.e c.n c.l=0)(h':c.n-1≠nu∨c.e<ep):fol ep nu i (c::r)=(15,(i:Int)):=by rw[fol,if_neg (by simp[h]),if_pos h']
theorem aa6 {ep nu:Int}{i:Nat}{c:Cv}{r:List Cv}(h:chk c.e c.n c.l=0)(h':¬(c.n-1≠nu∨c.e<ep)):fol ep nu i (c::r)=fol c.e c.n (i+1) r:=by rw[fol,if_neg (by simp[h]),if_neg h']
def flt (at':Int) (ep nu:Int) (c:Cv):Int×Int:=if chk c.e c.n c.l≠0 then(chk c.e c.n c.l,at')else if c.n-1≠nu∨c.e<ep then(15,at')else(0,0)
theorem abW {a ep nu:Int}{c:Cv}(h:chk c.e c.n c.l≠0):flt a ep nu c=(chk c.e c.n c.l,a):=by simp[flt,h]
theorem ab9 {a ep nu:Int}{c:Cv}(h:chk c.e c.n c.l=0)(h':c.n-1≠nu∨c.e<ep):flt a ep nu c=(15,a):=by rw[flt,if_neg (by simp[h]),if_pos h']
theorem aew {a ep nu:Int}{c:Cv}(h:chk c.e c.n c.l=0)(h':¬(c.n-1≠nu∨c.e<ep)):flt a ep nu c=(0,0):=by rw[flt,if_neg (by simp[h]),if_neg h']
theorem aek {a ep nu:Int}{c:Cv}(h:(flt a ep nu c).1=0):chk c.e c.n c.l=0∧¬(c.n-1≠nu∨c.e<ep)∧(flt a ep nu c).2=0:=by
 by_cases h1:chk c.e c.n c.l=0
 ·by_cases h2:c.n-1≠nu∨c.e<ep
  ·rw[ab9 h1 h2]at h
   simp at h
  ·refine⟨h1,h2,?_⟩
   rw[aew h1 h2]
 ·rw[abW h1]at h
  exact absurd h h1
theorem anC {ep nu:Int}{i:Nat}{c:Cv}{r:List Cv}(h:(flt i ep nu c).1≠0):fol ep nu i (c::r)=flt i ep nu c:=by
 by_cases h1:chk c.e c.n c.l=0
 ·by_cases h2:c.n-1≠nu∨c.e<ep
  ·rw[ab9 h1 h2,xP h1 h2]
  ·rw[aew h1 h2]at h
   simp at h
 ·rw[abW h1,yn h1]
theorem amR {ep nu:Int}{i:Nat}{c:Cv}{r:List Cv}(h:(flt i ep nu c).1=0):fol ep nu i (c::r)=fol c.e c.n (i+1) r:=by
 obtain⟨h1,h2,_⟩:=aek h
 exact aa6 h1 h2
def Good (ep nu:Int):List Cv→Prop
 |[]=>True
 |c::r=>chk c.e c.n c.l=0∧c.n-1=nu∧ep≤c.e∧Good c.e c.n r
theorem dZ:∀(l:List Cv) (ep nu:Int) (i:Nat),(fol ep nu i l).1=0↔Good ep nu l
 |[],_,_,_=>by simp[fol,Good]
 |c::r,ep,nu,i=>by
  by_cases h1:chk c.e c.n c.l=0
  ·by_cases h2:c.n-1≠nu∨c.e<ep
   ·rw[xP h1 h2]
    simp only[Good]
    constructor
    ·intro h;simp at h
    ·intro h;omega
   ·rw[aa6 h1 h2,dZ r]
    simp only[Good]
    constructor
    ·intro h;exact⟨h1,by omega,by omega,h⟩
    ·intro h;exact h.2.2.2
  ·rw[yn h1]
   simp only[Good]
   constructor
   ·intro h;exact absurd h h1
   ·intro h;exact absurd h.1 h1
theorem oI:∀(l:List Cv) (ep nu:Int) (i:Nat),(fol ep nu i l).1=0→(fol ep nu i l).2=0
 |[],_,_,_,_=>rfl
 |c::r,ep,nu,i,h=>by
  by_cases h1:chk c.e c.n c.l=0
  ·by_cases h2:c.n-1≠nu∨c.e<ep
   ·rw[xP h1 h2]at h
    simp at h
   ·rw[aa6 h1 h2]at h⊢
    exact oI r _ _ _ h
  ·rw[yn h1]at h
   exact absurd h h1
def lastE (ep:Int):List Cv→Int
 |[]=>ep
 |c::r=>lastE c.e r
def lastN (nu:Int):List Cv→Int
 |[]=>nu
 |c::r=>lastN c.n r
theorem fI:∀(l m:List Cv) (ep nu:Int),Good ep nu (l++m)↔Good ep nu l∧Good (lastE ep l) (lastN nu l) m
 |[],m,_,_=>by simp[Good,lastE,lastN]
 |c::r,m,ep,nu=>by
  simp only[List.cons_append,Good,lastE,lastN,fI r m]
  constructor
  ·rintro⟨h1,h2,h3,h4,h5⟩;exact⟨⟨h1,h2,h3,h4⟩,h5⟩
  ·rintro⟨⟨h1,h2,h3,h4⟩,h5⟩;exact⟨h1,h2,h3,h4,h5⟩
theorem iE:∀(l:List Cv) (c:Cv) (ep nu:Int),lastE ep (l++[c])=c.e∧lastN nu (l++[c])=c.n
 |[],_,_,_=>⟨rfl,rfl⟩
 |d::r,c,ep,nu=>by simpa[lastE,lastN]using iE r c d.e d.n
theorem gL {l:List Cv}{ep nu:Int}(h:Good ep nu l)(k:Nat):Good ep nu (l.take k):=by
 rw[←List.take_append_drop k l,fI]at h
 exact h.1
theorem nI:∀(l:List Cv) (ep nu:Int) (k:Nat) (c:Cv),Good ep nu l→l[k]? =some c→chk c.e c.n c.l=0∧c.n-1-k=nu∧lastE ep (l.take k)≤c.e∧lastN nu (l.take k)=nu+k
 |[],_,_,_,_,_,h=>by simp at h
 |d::r,ep,nu,0,c,hg,h=>by
  simp at h
  subst h
  obtain⟨h1,h2,h3,_⟩:=hg
  exact⟨h1,by omega,by simpa[lastE]using h3,by simp[lastN]⟩
 |d::r,ep,nu,k+1,c,hg,h=>by
  obtain⟨h1,h2,h3,h4⟩:=hg
  obtain⟨g1,g2,g3,g4⟩:=nI r d.e d.n k c h4 (by simpa using h)
  refine⟨g1,by omega,by simpa[lastE]using g3,?_⟩
  simp only[List.take_succ_cons,lastN]
  rw[g4]
  omega
end Go.Proofs.YtmngcecomcadkaaGreatDoor.Cm
