/- Texts of one layer, one behind the other. -/
import Derived.Test.YtjemlgdkjilnoaaGreatDoorG1
set_option maxRecDepth 100000
set_option maxHeartbeats 8000000
namespace Go.Proofs.YtjemlgdkjilnoaaGreatDoor.Sm
set_option linter.unusedVariables false
abbrev S:=Int×Int
def Up (en:Int):Int→Int→List S→Prop
 |_,_,[]=>True
 |e,f,s::r=>e<s.1∧s.1≤1048576∧f<s.2∧s.2≤en∧Up en s.1 s.2 r
def upb (en:Int):Int→Int→List S→Bool
 |_,_,[]=>true
 |e,f,s::r=>(decide (e<s.1)&&decide (s.1≤1048576))&&((decide (f<s.2)&&decide (s.2≤en))&&upb en s.1 s.2 r)
theorem ab2 (en:Int):∀(e f:Int) (l:List S),upb en e f l=true↔Up en e f l
 |_,_,[]=>⟨fun _=>trivial,fun _=>rfl⟩
 |e,f,s::r=>by
  unfold upb Up
  rw[Bool.and_eq_true,Bool.and_eq_true,Bool.and_eq_true,Bool.and_eq_true,ab2 en s.1 s.2 r,decide_eq_true_iff,decide_eq_true_iff,decide_eq_true_iff,decide_eq_true_iff]
  constructor
  ·rintro⟨⟨h1,h2⟩,⟨h3,h4⟩,h5⟩
   exact⟨h1,h2,h3,h4,h5⟩
  ·rintro⟨h1,h2,h3,h4,h5⟩
   exact⟨⟨h1,h2⟩,⟨h3,h4⟩,h5⟩
def Ok (l:List S) (en:Int):Prop:=0≤en∧en≤1048576∧(l.length=0↔en=0)∧Up en 0 0 l∧((l.map Prod.snd).headD 1=1)
def okb (l:List S) (en:Int):Bool:=(decide (0≤en)&&decide (en≤1048576))&&(decide (l.length=0↔en=0)&&(upb en 0 0 l&&decide ((l.map Prod.snd).headD 1=1)))
theorem yl {l:List S}{en:Int}:okb l en=true↔Ok l en:=by
 unfold okb Ok
 rw[Bool.and_eq_true,Bool.and_eq_true,Bool.and_eq_true,Bool.and_eq_true,ab2,decide_eq_true_iff,decide_eq_true_iff,decide_eq_true_iff,decide_eq_true_iff]
 constructor
 ·rintro⟨⟨h1,h2⟩,h3,h4,h5⟩
  exact⟨h1,h2,h3,h4,h5⟩
 ·rintro⟨h1,h2,h3,h4,h5⟩
  exact⟨⟨h1,h2⟩,h3,h4,h5⟩
def chk (l:List S) (en:Int):Int:=if okb l en=true then 0 else 5
theorem ib {l:List S}{en:Int}(h:Ok l en):chk l en=0:=if_pos (yl.2 h)
theorem iD {l:List S}{en:Int}(h:¬Ok l en):chk l en=5:=if_neg fun k=>h (yl.1 k)
theorem aQ {l:List S}{en:Int}:chk l en=0↔Ok l en:=by
 constructor
 ·intro h
  by_cases k:Ok l en
  ·exact k
  ·rw[iD k]at h;simp at h
 ·exact ib
def epo (n:Int):Int→List S→Int
 |e,[]=>e
 |e,s::r=>if s.2≤n then epo n s.1 r else e
def beg (n:Int):List S→List S
 |[]=>[]
 |s::r=>if s.2≤n then s::beg n r else []
def ay (l:List S):Int:=((l.map Prod.fst).getLast?).getD 0
theorem ard:ay []=0:=rfl
theorem j6 (l:List S)(s:S):ay (l++[s])=s.1:=by simp[ay]
theorem tF {l:List S}{s:S}(h:l[l.length-1]? =some s):ay l=s.1:=by
 unfold ay
 rw[List.getLast?_eq_getElem?,List.length_map,List.getElem?_map,h]
 rfl
theorem uB:∀(l:List S) (en e f:Int),Up en e f l→∀(i:Nat) (s:S),l[i]? =some s→e<s.1∧s.1≤1048576∧f<s.2∧s.2≤en
 |[],_,_,_,_,_,_,h=>by simp at h
 |t::r,en,e,f,h,0,s,hs=>by
  simp at hs
  subst hs
  exact⟨h.1,h.2.1,h.2.2.1,h.2.2.2.1⟩
 |t::r,en,e,f,h,i+1,s,hs=>by
  have:=uB r en t.1 t.2 h.2.2.2.2 i s (by simpa using hs)
  have:=h.1
  have:=h.2.2.1
  omega
theorem aiJ:∀(l:List S) (en e f:Int),Up en e f l→∀(i j:Nat) (s t:S),i<j→l[i]? =some s→l[j]? =some t→s.1<t.1∧s.2<t.2
 |[],_,_,_,_,_,_,_,_,_,h,_=>by simp at h
 |a::r,en,e,f,h,0,j,s,t,hij,hs,ht=>by
  simp at hs
  subst hs
  obtain⟨j,rfl⟩:∃k,j=k+1:=⟨j-1,by omega⟩
  have:=uB r en a.1 a.2 h.2.2.2.2 j t (by simpa using ht)
  omega
 |a::r,en,e,f,h,i+1,j,s,t,hij,hs,ht=>by
  obtain⟨j,rfl⟩:∃k,j=k+1:=⟨j-1,by omega⟩
  exact aiJ r en a.1 a.2 h.2.2.2.2 i j s t (by omega) (by simpa using hs) (by simpa using ht)
theorem ary {l:List S}{k:Nat}{s:S}{en e f:Int}(h:l[k]? =some s):Up en e f (l.drop k)↔e<s.1∧s.1≤1048576∧f<s.2∧s.2≤en∧Up en s.1 s.2 (l.drop (k+1)):=by
 have hk:=(List.getElem?_eq_some_iff.1 h).1
 rw[List.drop_eq_getElem_cons hk,(List.getElem?_eq_some_iff.1 h).2]
 rfl
theorem tZ:∀(n:Int) (l:List S),beg n l=l.take (beg n l).length
 |_,[]=>by simp[beg]
 |n,s::r=>by
  unfold beg
  split
  ·rw[List.length_cons,List.take_succ_cons,←tZ n r]
  ·simp
theorem alv (n:Int)(l:List S):(beg n l).length≤l.length:=by
 have:=congrArg List.length (tZ n l)
 rw[List.length_take]at this
 omega
theorem aeq:∀(n:Int) (l:List S) (i:Nat) (s:S),i<(beg n l).length→l[i]? =some s→s.2≤n
 |_,[],_,_,h,_=>by simp[beg]at h
 |n,t::r,i,s,h,hs=>by
  unfold beg at h
  split at h
  ·rename_i ht
   cases i with
   |zero=>simp at hs;subst hs;exact ht
   |succ i=>exact aeq n r i s (by simpa using h) (by simpa using hs)
  ·simp at h
theorem agX:∀(n:Int) (l:List S) (s:S),l[(beg n l).length]? =some s→n<s.2
 |_,[],_,h=>by simp[beg]at h
 |n,t::r,s,h=>by
  unfold beg at h
  split at h
  ·rename_i ht
   exact agX n r s (by simpa using h)
  ·rename_i ht
   simp at h
   subst h
   omega
theorem arT {l:List S}{en e f n:Int}(h:Up en e f l){k:Nat}(hk:k≤l.length)(h1:∀(i:Nat) (s:S),i<k→l[i]? =some s→s.2≤n)(h2:∀s:S,l[k]? =some s→n<s.2):(beg n l).length=k:=by
 have hb:=alv n l
 rcases Nat.lt_trichotomy (beg n l).length k with h3|h3|h3
 ·have hs:l[(beg n l).length]? =some l[(beg n l).length]:=List.getElem?_eq_getElem (by omega)
  have:=agX n l _ hs
  have:=h1 _ _ h3 hs
  omega
 ·exact h3
 ·have hs:l[k]? =some l[k]:=List.getElem?_eq_getElem (by omega)
  have:=aeq n l k _ h3 hs
  have:=h2 _ hs
  omega
theorem aho:∀(n e:Int) (l:List S),epo n e l=((beg n l).map Prod.fst).getLast?.getD e
 |_,_,[]=>rfl
 |n,e,s::r=>by
  unfold epo beg
  split
  ·rw[aho n s.1 r,List.map_cons,List.getLast?_cons]
   rfl
  ·rfl
theorem ab5 (n:Int)(l:List S):epo n 0 l=ay (beg n l):=aho n 0 l
theorem afB {l:List S}{en e f n:Int}(h:Up en e f l){k:Nat}{s:S}(hs:l[k]? =some s)(h1:s.2≤n)(h2:∀t:S,l[k+1]? =some t→n<t.2):epo n 0 l=s.1:=by
 have hk:=(List.getElem?_eq_some_iff.1 hs).1
 have hl:(beg n l).length=k+1:=by
  refine arT h (by omega) (fun i t hi ht=>?_) h2
  rcases Nat.lt_or_ge i k with g|g
  ·have:=(aiJ l en e f h i k t s g ht hs).2
   omega
  ·obtain rfl:i=k:=by omega
   rw[hs]at ht
   simp at ht
   subst ht
   exact h1
 rw[ab5,tZ,hl]
 refine tF ?_
 rw[List.length_take,show min (k+1) l.length-1=k by omega,List.getElem?_take,if_pos (by omega)]
 exact hs
theorem aol {l:List S}{n:Int}(h:∀s:S,l[0]? =some s→n<s.2):epo n 0 l=0:=by
 cases l with
 |nil=>rfl
 |cons s r=>
  have:=h s (by simp)
  unfold epo
  rw[if_neg (by omega)]
theorem ahx {l:List S}{en:Int}(h:Ok l en):∀s:S,l[0]? =some s→s.2=1:=by
 intro s hs
 cases l with
 |nil=>simp at hs
 |cons t r=>
  simp at hs
  subst hs
  exact h.2.2.2.2
theorem yt {l:List S}{en:Int}(h:Ok l en):epo 0 0 l=0:=aol fun s hs=>by rw[ahx h s hs];omega
theorem awc {l:List S}{en e f n:Int}(h:Up en e f l){k:Nat}(hl:∀s:S,l[k+1]? =some s→n<s.2){t:S}(ht:l[k]? =some t)(he:0≤e):epo n 0 l≤t.1:=by
 rw[ab5]
 have hk:(beg n l).length≤k+1:=by
  rcases Nat.lt_or_ge (k+1) (beg n l).length with g|g
  ·have:=alv n l
   have hs:l[k+1]? =some l[k+1]:=List.getElem?_eq_getElem (by omega)
   have:=aeq n l (k+1) _ g hs
   have:=hl _ hs
   omega
  ·exact g
 rw[tZ]
 generalize hq:(beg n l).length=q at hk
 have hkl:=(List.getElem?_eq_some_iff.1 ht).1
 cases q with
 |zero=>
  have:=uB l en e f h k t ht
  simp[ard]
  omega
 |succ q=>
  have hs:l[q]? =some l[q]:=List.getElem?_eq_getElem (by omega)
  rw[tF (s:=l[q]) (by rw[List.length_take,show min (q+1) l.length-1=q by omega,List.getElem?_take,if_pos (by omega)];exact hs)]
  rcases Nat.lt_or_ge q k with g|g
  ·have:=(aiJ l en e f h q k _ t g hs ht).1
   omega
  ·obtain rfl:q=k:=by omega
   rw[hs]at ht
   simp at ht
   rw[ht]
   exact Int.le_refl _
def Fk (a:List S) (ae:Int) (b:List S) (be n:Int):Prop:=
 0≤n∧n≤ae∧n≤be∧epo n 0 a=epo n 0 b∧∀m,n<m→m≤ae→m≤be→epo m 0 a≠epo m 0 b
theorem auR {a b:List S}{ae be n m:Int}(h:Fk a ae b be n)(k:Fk a ae b be m):n=m:=by
 obtain⟨h1,h2,h3,h4,h5⟩:=h
 obtain⟨k1,k2,k3,k4,k5⟩:=k
 rcases Int.lt_trichotomy n m with g|g|g
 ·exact absurd k4 (h5 m g k2 k3)
 ·exact g
 ·exact absurd h4 (k5 n g h2 h3)
structure Bk (a:List S) (ae:Int) (b:List S) (be:Int) (p:Nat) (x:Int) (q:Nat) (y:Int):Prop where
 pa:p≤a.length
 qb:q≤b.length
 xa:(p=a.length∧x=ae)∨∃s:S,a[p]? =some s∧x=s.2-1
 yb:(q=b.length∧y=be)∨∃s:S,b[q]? =some s∧y=s.2-1
 no:∀m,m≤ae→m≤be→(x<m∨y<m)→epo m 0 a≠epo m 0 b
theorem ad8 (a b:List S)(ae be:Int):Bk a ae b be a.length ae b.length be:=
 ⟨Nat.le_refl _,Nat.le_refl _,.inl ⟨rfl,rfl⟩,.inl ⟨rfl,rfl⟩,fun m h1 h2 h3=>by omega⟩
theorem Bk.swap {a b:List S}{ae be x y:Int}{p q:Nat}(h:Bk a ae b be p x q y):Bk b be a ae q y p x:=
 ⟨h.qb,h.pa,h.yb,h.xa,fun m h1 h2 h3 e=>h.no m h2 h1 h3.symm e.symm⟩
theorem Bk.bound {a b:List S}{ae be x y:Int}{p q:Nat}(h:Bk a ae b be p x q y)(ha:Ok a ae):0≤x∧x≤ae∧(p=0→x=0)∧(∀s:S,a[p]? =some s→x<s.2):=by
 rcases h.xa with⟨rfl,rfl⟩|⟨s,hs,rfl⟩
 ·exact⟨ha.1,Int.le_refl _,fun h0=>ha.2.2.1.1 h0,fun s hs=>by simp at hs⟩
 ·have:=uB a ae 0 0 ha.2.2.2.1 p s hs
  refine⟨by omega,by omega,fun h0=>?_,fun t ht=>?_⟩
  ·subst h0
   have:=ahx ha s hs
   omega
  ·rw[hs]at ht
   simp at ht
   subst ht
   omega
theorem Bk.drop {a b:List S}{ae be x y:Int}{p q:Nat}(h:Bk a ae b be (p+1) x (q+1) y)(ha:Ok a ae)(hb:Ok b be){s t:S}(hs:a[p]? =some s)(ht:b[q]? =some t)(hd:t.1<s.1∨x<s.2∨y<s.2):Bk a ae b be p (s.2-1) (q+1) y:=by
 have hp:=h.pa
 refine⟨by omega,h.qb,.inr ⟨s,hs,rfl⟩,h.yb,fun m h1 h2 h3=>?_⟩
 by_cases hm:x<m∨y<m
 ·exact h.no m h1 h2 hm
 ·have h4:s.2≤m:=by omega
  rcases hd with hd|hd|hd
  ·have e1:=afB ha.2.2.2.1 hs h4 (fun t' ht'=>by have:=(h.bound ha).2.2.2 t' ht';omega)
   have e2:=awc hb.2.2.2.1 (n:=m) (k:=q) (fun s' hs'=>by have:=(h.swap.bound hb).2.2.2 s' hs';omega) ht (Int.le_refl 0)
   omega
  ·omega
  ·omega
theorem Bk.found {a b:List S}{ae be x y:Int}{p q:Nat}(h:Bk a ae b be (p+1) x (q+1) y)(ha:Ok a ae)(hb:Ok b be){s t:S}(hs:a[p]? =some s)(ht:b[q]? =some t)(h1:¬t.1<s.1)(h2:¬s.1<t.1)(h3:s.2≤min x y)(h4:t.2≤min x y):Fk a ae b be (min x y):=by
 obtain⟨x0,x1,_,x2⟩:=h.bound ha
 obtain⟨y0,y1,_,y2⟩:=h.swap.bound hb
 refine⟨by omega,by omega,by omega,?_,fun m g1 g2 g3=>h.no m g2 g3 (by omega)⟩
 rw[afB ha.2.2.2.1 hs h3 (fun t' ht'=>by have:=x2 t' ht';omega),afB hb.2.2.2.1 ht h4 (fun t' ht'=>by have:=y2 t' ht';omega)]
 omega
theorem Bk.none {a b:List S}{ae be x y:Int}{p q:Nat}(h:Bk a ae b be p x q y)(ha:Ok a ae)(hb:Ok b be)(h0:p=0∨q=0):Fk a ae b be (min x y):=by
 obtain⟨x0,x1,x3,x2⟩:=h.bound ha
 obtain⟨y0,y1,y3,y2⟩:=h.swap.bound hb
 have h1:min x y=0:=by
  rcases h0 with h0|h0
  ·have:=x3 h0;omega
  ·have:=y3 h0;omega
 refine⟨by omega,by omega,by omega,?_,fun m g1 g2 g3=>h.no m g2 g3 (by omega)⟩
 rw[h1,yt ha,yt hb]
def told (ep:Int):List Cm.Cv→List S
 |[]=>[]
 |c::r=>if c.e=ep then told c.e r else(c.e,c.n)::told c.e r
theorem aep:∀(l m:List Cm.Cv) (ep:Int),told ep (l++m)=told ep l++told (Cm.lastE ep l) m
 |[],m,_=>rfl
 |c::r,m,ep=>by
  have h:=aep r m c.e
  simp only[List.cons_append,told,Cm.lastE]
  split
  ·exact h
  ·rw[h];rfl
theorem ak7 (l:List Cm.Cv)(c:Cm.Cv)(ep:Int):told ep (l++[c])=if c.e=Cm.lastE ep l then told ep l else told ep l++[(c.e,c.n)]:=by
 rw[aep]
 simp only[told]
 split<;>simp
theorem vY:∀(l:List Cm.Cv) (ep:Int),(((told ep l).map Prod.fst).getLast?).getD ep=Cm.lastE ep l
 |[],_=>rfl
 |c::r,ep=>by
  unfold told
  split
  ·rename_i h
   rw[←h]
   exact vY r c.e
  ·rw[List.map_cons,List.getLast?_cons]
   exact vY r c.e
theorem af5 (l:List Cm.Cv):ay (told 0 l)=Cm.lastE 0 l:=vY l 0
theorem aby:∀(l:List Cm.Cv) (ep nu en:Int),Cm.Good ep nu l→nu+l.length≤en→Up en ep nu (told ep l)
 |[],_,_,_,_,_=>trivial
 |c::r,ep,nu,en,h,hl=>by
  obtain⟨h1,h2,h3,h4⟩:=h
  obtain⟨b1,b2,b3,b4,_⟩:=Cm.aQ h1
  have hl':c.n+r.length≤en:=by simp at hl;omega
  have:=aby r c.e c.n en h4 hl'
  unfold told
  split
  ·rename_i he
   rw[←he]
   generalize told c.e r=u at this
   cases u with
   |nil=>trivial
   |cons s u=>
    obtain⟨g1,g2,g3,g4,g5⟩:=this
    exact⟨g1,g2,by omega,g4,g5⟩
  ·exact⟨by omega,b2,by omega,by simp at hl;omega,this⟩
theorem eG {l:List Cm.Cv}(h:Cm.Good 0 0 l):(l.length:Int)≤1048576:=by
 cases hl:l.length with
 |zero=>simp
 |succ k=>
  have hc:l[k]? =some l[k]:=List.getElem?_eq_getElem (by omega)
  obtain⟨g1,g2,_⟩:=Cm.nk l 0 0 k _ h hc
  have:=Cm.aQ g1
  simp
  omega
theorem abR {l:List Cm.Cv}(h:Cm.Good 0 0 l):Ok (told 0 l) l.length:=by
 refine⟨by omega,eG h,?_,aby l 0 0 l.length h (by omega),?_⟩
 ·cases l with
  |nil=>simp[told]
  |cons c r=>
   obtain⟨h1,h2,h3,h4⟩:=h
   have:=Cm.aQ h1
   unfold told
   rw[if_neg (by omega)]
   simp
   omega
 ·cases l with
  |nil=>rfl
  |cons c r=>
   obtain⟨h1,h2,h3,h4⟩:=h
   have:=Cm.aQ h1
   unfold told
   rw[if_neg (by omega)]
   simp
   omega
theorem aeB:∀(l:List Cm.Cv) (ep nu:Int) (k:Nat),Cm.Good ep nu l→beg (nu+k) (told ep l)=told ep (l.take k)
 |[],_,_,_,_=>by simp[told,beg]
 |c::r,ep,nu,0,h=>by
  have hu:=aby (c::r) ep nu (nu+(c::r).length) h (Int.le_refl _)
  rw[List.take_zero]
  generalize told ep (c::r)=u at hu
  cases u with
  |nil=>rfl
  |cons s u=>
   unfold beg
   rw[if_neg (by have:=hu.2.2.1;simp;omega)]
   rfl
 |c::r,ep,nu,k+1,h=>by
  obtain⟨h1,h2,h3,h4⟩:=h
  have:=aeB r c.e c.n k h4
  rw[show c.n+(k:Int)=nu+((k+1:Nat):Int)by push_cast;omega]at this
  rw[List.take_succ_cons]
  unfold told
  split
  ·exact this
  ·rw[beg,if_pos (by simp;omega),this]
theorem yN {l:List Cm.Cv}(h:Cm.Good 0 0 l){k:Nat}{c:Cm.Cv}(hc:l[k]? =some c):epo ((k:Int)+1) 0 (told 0 l)=c.e:=by
 have hk:=(List.getElem?_eq_some_iff.1 hc).1
 have:=aeB l 0 0 (k+1) h
 rw[show(0:Int)+((k+1:Nat):Int)=(k:Int)+1 by push_cast;omega]at this
 rw[ab5,this,af5,List.take_add_one,hc]
 exact(Cm.iI _ c 0 0).1
theorem ald {l m:List Cm.Cv}(hl:Cm.Good 0 0 l)(hm:Cm.Good 0 0 m){k:Nat}(h1:k≤l.length)(h2:k≤m.length)(hf:l.take k=m.take k)(hn:∀(i:Nat) (c d:Cm.Cv),k≤i→l[i]? =some c→m[i]? =some d→c.e≠d.e):Fk (told 0 l) l.length (told 0 m) m.length k:=by
 refine⟨by omega,by omega,by omega,?_,fun x g1 g2 g3=>?_⟩
 ·cases k with
  |zero=>rw[show((0:Nat):Int)=0 from rfl,yt (abR hl),yt (abR hm)]
  |succ k=>
   have e1:l[k]? =some l[k]:=List.getElem?_eq_getElem (by omega)
   have e2:m[k]? =some m[k]:=List.getElem?_eq_getElem (by omega)
   rw[show((k+1:Nat):Int)=(k:Int)+1 by push_cast;rfl,yN hl e1,yN hm e2]
   have:=congrArg (fun u=>u[k]?) hf
   simp only[List.getElem?_take]at this
   rw[if_pos (by omega),if_pos (by omega),e1,e2]at this
   simp at this
   rw[this]
 ·obtain⟨i,rfl⟩:∃i:Nat,x=(i:Int)+1:=⟨(x-1).toNat,by omega⟩
  have e1:l[i]? =some l[i]:=List.getElem?_eq_getElem (by omega)
  have e2:m[i]? =some m[i]:=List.getElem?_eq_getElem (by omega)
  rw[yN hl e1,yN hm e2]
  exact hn i _ _ (by omega) e1 e2
def grw (l:List S) (e n:Int):List S:=if e=ay l then l else l++[(e,n)]
theorem am1 (l:List Cm.Cv)(c:Cm.Cv):told 0 (l++[c])=grw (told 0 l) c.e c.n:=by
 unfold grw
 rw[ak7,af5]
end Go.Proofs.YtjemlgdkjilnoaaGreatDoor.Sm
namespace Go.Proofs.YtjemlgdkjilnoaaGreatDoor
theorem kX {α:Type}{l:List α}{k:Nat}(h:k<l.length):∃s,l[k]? =some s:=⟨l[k],List.getElem?_eq_getElem h⟩
end Go.Proofs.YtjemlgdkjilnoaaGreatDoor
namespace Go.Proofs.YtjemlgdkjilnoaaGreatDoor
set_option linter.unusedVariables false
namespace Fm
def cB (r:List Int):List Int:=Vm.enc r.length++r
theorem jF (r:List Int):(cB r).length=Vm.sz r.length+r.length:=by unfold cB Vm.sz;rw[List.length_append]
theorem yf (r:List Int):1≤(cB r).length:=by have:=Vm.sW r.length;rw[jF];omega
theorem bP {n:Nat}(h:n≤131072):Vm.sz n≤3:=Vm.nK 2 n (by omega)
theorem ny {r s bs:List Int}(h:cB r<+:bs)(h':cB s<+:bs):r=s:=by
 obtain⟨t,ht⟩:=h
 obtain⟨u,hu⟩:=h'
 unfold cB at ht hu
 have hl:r.length=s.length:=Vm.bJ bs _ _ ⟨r++t,by rw[←List.append_assoc];exact ht⟩ ⟨s++u,by rw[←List.append_assoc];exact hu⟩
 rw[←hu,hl,List.append_assoc,List.append_assoc]at ht
 have:=List.append_cancel_left ht
 exact(List.append_inj this hl).1
def Rd (bs r:List Int) (n:Nat) (e:Int):Prop:=
 (e=0∧r.length≤131072∧n=Vm.sz r.length+r.length∧cB r<+:bs)∨(e=5∧r=[]∧n=0∧∀s:List Int,s.length≤131072→¬cB s<+:bs)
theorem auQ {bs:List Int}{x:Nat}(h:Vm.enc x<+:bs)(hx:x≤bs.length-Vm.sz x):((bs.drop (Vm.sz x)).take x).length=x∧cB ((bs.drop (Vm.sz x)).take x)<+:bs:=by
 have hl:((bs.drop (Vm.sz x)).take x).length=x:=by rw[List.length_take,List.length_drop];omega
 refine⟨hl,?_⟩
 obtain⟨t,ht⟩:=h
 have hd:bs.drop (Vm.sz x)=t:=by rw[←ht];exact List.drop_left
 unfold cB
 rw[hl]
 rw[hd]at*
 exact⟨t.drop x,by rw[List.append_assoc,List.take_append_drop];exact ht⟩
theorem abO {bs r:List Int}(h:cB r<+:bs):Vm.enc r.length<+:bs∧r.length≤bs.length-Vm.sz r.length∧Vm.sz r.length+r.length≤bs.length:=by
 have hl:=h.length_le
 rw[jF]at hl
 refine⟨(List.prefix_append _ _).trans h,by omega,hl⟩
def cat:List (List Int)→List Int
 |[]=>[]
 |r::l=>cB r++cat l
theorem tC:∀(l m:List (List Int)),cat (l++m)=cat l++cat m
 |[],m=>rfl
 |r::l,m=>by simp[cat,tC l m]
theorem yu (r:List Int):cat [r]=cB r:=by simp[cat]
theorem iB {a b c:List Int}(h:a++b<+:c):b<+:c.drop a.length:=by
 obtain⟨t,ht⟩:=h
 rw[←ht,List.append_assoc,List.drop_left]
 exact List.prefix_append _ _
end Fm
end Go.Proofs.YtjemlgdkjilnoaaGreatDoor
namespace Go.Proofs.YtjemlgdkjilnoaaGreatDoor
set_option linter.unusedVariables false
namespace Pm
structure Pg where
 e:Int
 r:Int
 a:Int
 p:Int
 f:Int
 b:Int
theorem Pg.eq {x y:Pg}(h1:x.e=y.e)(h2:x.r=y.r)(h3:x.a=y.a)(h4:x.p=y.p)(h5:x.f=y.f)(h6:x.b=y.b):x=y:=by
 cases x;cases y;simp at*;exact⟨h1,h2,h3,h4,h5,h6⟩
def no:Pg:=⟨0,0,0,0,0,0⟩
abbrev Bnd (x:Pg):Prop:=1≤x.e∧x.e≤1048576∧0≤x.a∧x.a≤1048576∧0≤x.f∧x.f≤1048576∧0≤x.b∧x.b≤1073741824
abbrev Own (x:Pg):Prop:=
 (x.r=1∧x.p=0∧x.f=0∧x.b=0)∨(x.r=2∧x.a=0∧x.p=0∧x.f=0∧x.b=0)∨(x.r=3∧x.a=0∧x.p=1∧x.f=0∧x.b=0)∨(x.r=3∧x.a=0∧2≤x.p∧x.p≤4)
abbrev Ok (x:Pg):Prop:=Bnd x∧Own x
def chk (x:Pg):Int:=if Ok x then 0 else 2
theorem ib {x:Pg}(h:Ok x):chk x=0:=if_pos h
theorem iD {x:Pg}(h:¬Ok x):chk x=2:=if_neg h
theorem gy {x:Pg}:chk x=0↔Ok x:=by
 by_cases h:Ok x
 ·exact⟨fun _=>h,fun _=>ib h⟩
 ·exact⟨fun k=>by rw[iD h]at k;exact absurd k (by decide),fun k=>absurd k h⟩
theorem kG {x:Pg}(h:Ok x):1≤x.e∧x.e≤1048576∧1≤x.r∧x.r≤3∧0≤x.a∧x.a≤1048576∧0≤x.p∧x.p≤4∧0≤x.f∧x.f≤1048576∧0≤x.b∧x.b≤1073741824:=by
 obtain⟨⟨h1,h2,h3,h4,h5,h6,h7,h8⟩,h9⟩:=h
 unfold Own at h9
 omega
def nums (x:Pg):List Int:=[x.e,x.r,x.a,x.p,x.f,x.b]
def encs:List Int→List Int
 |[]=>[]
 |z::l=>Vm.enc z.toNat++encs l
theorem aad:∀l m:List Int,encs (l++m)=encs l++encs m
 |[],m=>rfl
 |z::l,m=>by simp[encs,aad l m]
def enc (x:Pg):List Int:=encs (nums x)
theorem afn:∀{l m:List Int} {bs:List Int},l.length=m.length→(∀z∈l,0≤z)→(∀z∈m,0≤z)→encs l<+:bs→encs m<+:bs→l=m
 |[],[],_,_,_,_,_,_=>rfl
 |[],_::_,_,h,_,_,_,_=>by simp at h
 |_::_,[],_,h,_,_,_,_=>by simp at h
 |x::l,y::m,bs,h,hx,hy,h1,h2=>by
  have e:=Vm.bJ bs _ _ ((List.prefix_append _ _).trans h1) ((List.prefix_append _ _).trans h2)
  have ex:x=y:=by
   have:=hx x (by simp)
   have:=hy y (by simp)
   omega
  subst ex
  have:=afn (by simpa using h) (fun z hz=>hx z (by simp[hz])) (fun z hz=>hy z (by simp[hz])) (Fm.iB h1) (Fm.iB h2)
  rw[this]
theorem agc {x:Pg}(h:Ok x):∀z∈nums x,0≤z:=by
 have:=kG h
 intro z hz
 simp[nums]at hz
 omega
theorem amV {x y:Pg}(h:nums x=nums y):x=y:=by
 unfold nums at h
 simp at h
 exact Pg.eq h.1 h.2.1 h.2.2.1 h.2.2.2.1 h.2.2.2.2.1 h.2.2.2.2.2
theorem xY {x y:Pg}{bs:List Int}(h:Ok x)(h':Ok y)(h1:enc x<+:bs)(h2:enc y<+:bs):x=y:=
 amV (afn rfl (agc h) (agc h') h1 h2)
theorem afN:∀{l:List Int},(∀z∈l,z<18446744073709551616)→(encs l).length≤10*l.length∧l.length≤(encs l).length
 |[],_=>by simp[encs]
 |z::l,h=>by
  have h1:=afN (l:=l) (fun y hy=>h y (by simp[hy]))
  have h2:=h z (by simp)
  have h3:=Vm.kI (x:=z.toNat) (by omega)
  have h4:=Vm.sW z.toNat
  unfold Vm.sz at h3 h4
  simp[encs]
  omega
theorem abC {x:Pg}(h:Ok x):(enc x).length≤60:=by
 have:=kG h
 have:=(afN (l:=nums x) (fun z hz=>by simp[nums]at hz;omega)).1
 exact this
def Dc (bs:List Int) (x:Pg) (e:Int):Prop:=
 (e=0∧Ok x∧bs=enc x)∨(e=5∧x=no∧∀y,Ok y→bs≠enc y)
def Run (bs:List Int) (l:List Int):Prop:=encs l<+:bs
def Ls (bs:List Int) (z x:Pg) (n:Nat):Prop:=
 ∃l:List Pg,(∀y∈l,Ok y)∧Fm.cat (l.map enc)<+:bs∧n=(Fm.cat (l.map enc)).length∧x=l.getLast?.getD z∧∀y,Ok y→¬Fm.cB (enc y)<+:bs.drop n
def Go (bs:List Int) (z x:Pg) (n:Nat):Prop:=
 ∃l:List Pg,(∀y∈l,Ok y)∧Fm.cat (l.map enc)<+:bs∧n=(Fm.cat (l.map enc)).length∧x=l.getLast?.getD z
end Pm
end Go.Proofs.YtjemlgdkjilnoaaGreatDoor
namespace Go.Proofs.YtjemlgdkjilnoaaGreatDoor.Mm
set_option linter.unusedVariables false
structure eO where
 k:Int
 e:Int
 r:Int
 n:Int
 ss:List Sm.S
 f:Int
 p:Int
 cs:List Cm.Cv
def no:eO:=⟨0,0,0,0,[],0,0,[]⟩
def Hel (m:eO):Prop:=1≤m.r∧m.r≤3∧Sm.Ok m.ss m.n∧Sm.ay m.ss≤m.e∧m.f=0∧m.p=0∧m.cs=[]
def Shp (m:eO):Prop:=1≤m.f∧m.f≤1048576∧0≤m.p∧m.p≤m.e∧(m.p=0↔m.f=1)∧m.cs.length≤4∧(∀c∈m.cs,c.e≤m.e)∧Cm.Good m.p (m.f-1) m.cs∧m.r=0∧m.n=0∧m.ss=[]
def Ack (m:eO):Prop:=0≤m.n∧m.n≤1048576∧m.r=0∧m.ss=[]∧m.f=0∧m.p=0∧m.cs=[]
def Ok (m:eO):Prop:=1≤m.e∧m.e≤1048576∧((m.k=1∧Hel m)∨(m.k=2∧Shp m)∨(m.k=3∧Ack m))
def Ck (m:eO) (c:Int):Prop:=(c=0∧Ok m)∨(c=2∧¬Ok m)
def fl:List Sm.S→List Int
 |[]=>[]
 |s::l=>s.1::s.2::fl l
theorem akL:∀l:List Sm.S,(fl l).length=2*l.length
 |[]=>rfl
 |s::l=>by simp[fl,akL l];omega
theorem alm:∀{l m:List Sm.S},fl l=fl m→l=m
 |[],[],_=>rfl
 |[],_::_,h=>by simp[fl]at h
 |_::_,[],h=>by simp[fl]at h
 |(a,b)::l,(c,d)::m,h=>by
  simp[fl]at h
  obtain⟨rfl,rfl,h⟩:=h
  rw[alm h]
def hd (m:eO):List Int:=
 if m.k=1 then [m.k,m.e,m.r,m.n,(m.ss.length:Int)]++fl m.ss else if m.k=2 then [m.k,m.e,m.f,m.p,(m.cs.length:Int)]else [m.k,m.e,m.n]
theorem ao1 {m:eO}(h:m.k=1):hd m=[m.k,m.e,m.r,m.n,(m.ss.length:Int)]++fl m.ss:=by unfold hd;rw[if_pos h]
theorem anF {m:eO}(h:m.k=2):hd m=[m.k,m.e,m.f,m.p,(m.cs.length:Int)]:=by unfold hd;rw[if_neg (by omega),if_pos h]
theorem anV {m:eO}(h:m.k=3):hd m=[m.k,m.e,m.n]:=by unfold hd;rw[if_neg (by omega),if_neg (by omega)]
def cb (c:Cm.Cv):List Int:=Cm.iA c.e c.n c.l
def enc (m:eO):List Int:=Pm.encs (hd m)++Fm.cat (m.cs.map cb)
theorem an3 {l:List Int}(h:Pm.encs l<+:[]):l=[]:=by
 cases l with
 |nil=>rfl
 |cons x l=>exact absurd ((List.prefix_append _ _).trans h) (Vm.pre_nil _)
theorem aam:∀{l L:List Int},(∀z∈l,0≤z)→(∀z∈L,0≤z)→Pm.encs l<+:Pm.encs L→l<+:L
 |[],L,_,_,_=>List.nil_prefix
 |x::l,[],_,_,h=>by have:=an3 h;cases this
 |x::l,y::L,hx,hy,h=>by
  have h2:Vm.enc x.toNat<+:Pm.encs (y::L):=(List.prefix_append _ _).trans h
  have e:=Vm.bJ _ _ _ h2 (List.prefix_append _ _)
  have ex:x=y:=by
   have:=hx x (by simp)
   have:=hy y (by simp)
   omega
  subst ex
  have h3:Pm.encs l<+:Pm.encs L:=by
   have:=Fm.iB (a:=Vm.enc x.toNat) (b:=Pm.encs l) h
   simpa[Pm.encs]using this
  have:=aam (fun z hz=>hx z (by simp[hz])) (fun z hz=>hy z (by simp[hz])) h3
  exact(List.cons_prefix_cons).2 ⟨rfl,this⟩
theorem ajX {l L bs:List Int}(hl:∀z∈l,0≤z)(hL:∀z∈L,0≤z)(h:Pm.encs l<+:bs)(h':Pm.encs L<+:bs):l<+:L∨L<+:l:=by
 rcases List.prefix_or_prefix_of_prefix h h' with g|g
 ·exact .inl (aam hl hL g)
 ·exact .inr (aam hL hl g)
theorem acK:∀(l:List Sm.S) (en e f:Int),0≤e→0≤f→en≤1048576→Sm.Up en e f l→∀z∈fl l,0≤z∧z≤1048576
 |[],_,_,_,_,_,_,_,z,hz=>by simp[fl]at hz
 |(a,b)::l,en,e,f,he,hf,hen,⟨h1,h2,h3,h4,h5⟩,z,hz=>by
  simp[fl]at hz
  simp at h1 h2 h3 h4
  rcases hz with rfl|rfl|hz
  ·omega
  ·omega
  ·exact acK l en a b (by omega) (by omega) hen h5 z hz
theorem sD:∀(l:List Sm.S) (en e f:Int),0≤f→Sm.Up en e f l→(l.length:Int)≤max 0 (en-f)
 |[],_,_,_,_,_=>by simp;omega
 |(a,b)::l,en,e,f,hf,⟨h1,h2,h3,h4,h5⟩=>by
  have:=sD l en a b (by simp at h3;omega) h5
  simp at h3 h4⊢
  omega
theorem abm {m:eO}(h:Ok m):(∀z∈hd m,0≤z∧z≤1048576)∧3≤(hd m).length∧(hd m).getD 0 0=m.k∧(hd m).getD 1 0=m.e∧1≤m.k∧m.k≤3∧
  (m.k=1→5≤(hd m).length∧(hd m).getD 2 0=m.r∧m.r≤3∧(hd m).getD 3 0=m.n∧(hd m).getD 4 0=(m.ss.length:Int)∧(hd m).length=5+2*m.ss.length)∧
  (m.k=2→(hd m).length=5∧(hd m).getD 2 0=m.f∧(hd m).getD 3 0=m.p∧(hd m).getD 4 0=(m.cs.length:Int)∧m.cs.length≤4)∧
  (m.k=3→(hd m).length=3∧(hd m).getD 2 0=m.n):=by
 obtain⟨e1,e2,hk⟩:=h
 rcases hk with⟨k1,h1,h2,⟨o1,o2,o3,o4,o5⟩,h4,h5,h6,h7⟩|⟨k2,h1,h2,h3,h4,h5,h6,h7,h8,h9,h10,h11⟩|⟨k3,h1,h2,h3,h4,h5,h6,h7⟩
 ·rw[ao1 k1]
  have hln:=sD m.ss m.n 0 0 (by omega) o4
  refine⟨fun z hz=>?_,by simp,by simp,by simp,by omega,by omega,fun _=>⟨by simp,by simp,h2,by simp,by simp,by simp[akL];omega⟩,fun h=>by omega,fun h=>by omega⟩
  rcases List.mem_append.1 hz with hz|hz
  ·simp at hz
   rcases hz with rfl|rfl|rfl|rfl|rfl<;>omega
  ·exact acK m.ss m.n 0 0 (by omega) (by omega) o2 o4 z hz
 ·rw[anF k2]
  refine⟨fun z hz=>?_,by simp,by simp,by simp,by omega,by omega,fun h=>by omega,fun _=>⟨by simp,by simp,by simp,by simp,h6⟩,fun h=>by omega⟩
  simp at hz
  rcases hz with rfl|rfl|rfl|rfl|rfl<;>omega
 ·rw[anV k3]
  refine⟨fun z hz=>?_,by simp,by simp,by simp,by omega,by omega,fun h=>by omega,fun h=>by omega,fun _=>⟨by simp,by simp⟩⟩
  simp at hz
  rcases hz with rfl|rfl|rfl<;>omega
theorem aj3 {m:eO}(h:Ok m):∀z∈hd m,0≤z:=fun z hz=>((abm h).1 z hz).1
theorem akP {l L:List Int}(h:l<+:L){i:Nat}(hi:i<l.length):L.getD i 0=l.getD i 0:=by
 obtain⟨t,rfl⟩:=h
 simp[List.getD_eq_getElem?_getD,List.getElem?_append_left hi]
theorem ahd {m m':eO}(h:Ok m)(h':Ok m')(hp:hd m<+:hd m'):hd m=hd m':=by
 obtain⟨_,a1,a2,a3,a4,a5,a6,a7,a8⟩:=abm h
 obtain⟨_,b1,b2,b3,b4,b5,b6,b7,b8⟩:=abm h'
 have e0:=akP hp (i:=0) (by omega)
 rw[a2,b2]at e0
 refine hp.eq_of_length ?_
 have:m.k=1∨m.k=2∨m.k=3:=by omega
 rcases this with k|k|k
 ·have a:=a6 k
  have b:=b6 (by omega)
  have e4:=akP hp (i:=4) (by omega)
  rw[a.2.2.2.2.1,b.2.2.2.2.1]at e4
  omega
 ·have a:=a7 k
  have b:=b7 (by omega)
  omega
 ·have a:=a8 k
  have b:=b8 (by omega)
  omega
theorem af9:∀{l m:List (List Int)} {bs:List Int},l.length=m.length→Fm.cat l<+:bs→Fm.cat m<+:bs→l=m
 |[],[],_,_,_,_=>rfl
 |[],_::_,_,h,_,_=>by simp at h
 |_::_,[],_,h,_,_=>by simp at h
 |x::l,y::m,bs,h,h1,h2=>by
  have e:=Fm.ny ((List.prefix_append _ _).trans h1) ((List.prefix_append _ _).trans h2)
  subst e
  rw[af9 (by simpa using h) (Fm.iB h1) (Fm.iB h2)]
theorem gL:∀{l:List Cm.Cv} {ep nu:Int},Cm.Good ep nu l→∀c∈l,Cm.chk c.e c.n c.l=0
 |[],_,_,_,c,hc=>by simp at hc
 |d::l,_,_,⟨h1,_,_,h4⟩,c,hc=>by
  rcases List.mem_cons.1 hc with rfl|hc
  ·exact h1
  ·exact gL h4 c hc
theorem ami:∀{l m:List Cm.Cv},(∀c∈l,Cm.chk c.e c.n c.l=0)→(∀c∈m,Cm.chk c.e c.n c.l=0)→l.map cb=m.map cb→l=m
 |[],[],_,_,_=>rfl
 |[],_::_,_,_,h=>by simp at h
 |_::_,[],_,_,h=>by simp at h
 |c::l,d::m,h1,h2,h=>by
  simp at h
  obtain⟨e1,e2,e3⟩:=Cm.ae5 (h1 c (by simp)) (h2 d (by simp)) h.1
  have:c=d:=by cases c;cases d;simp at e1 e2 e3;simp[e1,e2,e3]
  subst this
  rw[ami (fun x hx=>h1 x (by simp[hx])) (fun x hx=>h2 x (by simp[hx])) h.2]
theorem ap6 {m:eO}(h:Ok m):∀c∈m.cs,Cm.chk c.e c.n c.l=0:=by
 rcases h.2.2 with⟨_,_,_,_,_,_,_,h7⟩|⟨_,_,_,_,_,_,_,_,h8,_⟩|⟨_,_,_,_,_,_,_,h7⟩
 ·rw[h7];simp
 ·exact gL h8
 ·rw[h7];simp
theorem xY {m m':eO}{bs:List Int}(h:Ok m)(h':Ok m')(h1:enc m<+:bs)(h2:enc m'<+:bs):m=m':=by
 have g1:Pm.encs (hd m)<+:bs:=(List.prefix_append _ _).trans h1
 have g2:Pm.encs (hd m')<+:bs:=(List.prefix_append _ _).trans h2
 have e:hd m=hd m':=by
  rcases ajX (aj3 h) (aj3 h') g1 g2 with g|g
  ·exact ahd h h' g
  ·exact(ahd h' h g).symm
 have hcl:m.cs.length=m'.cs.length→m.cs=m'.cs:=fun hl=>by
  have c1:=Fm.iB h1
  have c2:=Fm.iB h2
  rw[←e]at c2
  exact ami (ap6 h) (ap6 h') (af9 (by simpa using hl) c1 c2)
 obtain⟨_,_,a2,a3,a4,a5,a6,a7,a8⟩:=abm h
 obtain⟨_,_,b2,b3,b4,b5,b6,b7,b8⟩:=abm h'
 rw[e]at a2 a3
 have ek:m.k=m'.k:=a2.symm.trans b2
 have ee:m.e=m'.e:=a3.symm.trans b3
 rcases h.2.2 with⟨k,hh⟩|⟨k,hh⟩|⟨k,hh⟩
 ·rcases h'.2.2 with⟨k',gg⟩|⟨k',gg⟩|⟨k',gg⟩
  ·have e2:=e
   rw[ao1 k,ao1 k']at e2
   simp at e2
   have ess:=alm e2.2.2.2.2.2
   obtain⟨_,_,_,_,f1,p1,c1⟩:=hh
   obtain⟨_,_,_,_,f2,p2,c2⟩:=gg
   cases m;cases m'
   simp at*
   exact⟨ek,ee,e2.2.2.1,e2.2.2.2.1,ess,by omega,by omega,by rw[c1,c2]⟩
  ·omega
  ·omega
 ·rcases h'.2.2 with⟨k',gg⟩|⟨k',gg⟩|⟨k',gg⟩
  ·omega
  ·have e2:=e
   rw[anF k,anF k']at e2
   simp at e2
   have ecs:=hcl (by omega)
   obtain⟨_,_,_,_,_,_,_,_,r1,n1,s1⟩:=hh
   obtain⟨_,_,_,_,_,_,_,_,r2,n2,s2⟩:=gg
   cases m;cases m'
   simp at*
   exact⟨ek,ee,by omega,by omega,by rw[s1,s2],e2.2.2.1,e2.2.2.2.1,ecs⟩
  ·omega
 ·rcases h'.2.2 with⟨k',gg⟩|⟨k',gg⟩|⟨k',gg⟩
  ·omega
  ·omega
  ·have e2:=e
   rw[anV k,anV k']at e2
   simp at e2
   obtain⟨_,_,r1,s1,f1,p1,c1⟩:=hh
   obtain⟨_,_,r2,s2,f2,p2,c2⟩:=gg
   cases m;cases m'
   simp at*
   exact⟨ek,ee,by omega,e2.2.2,by rw[s1,s2],by omega,by omega,by rw[c1,c2]⟩
def Dc (bs:List Int) (m:eO) (g:Int):Prop:=
 (g=0∧Ok m∧bs=enc m)∨(g=5∧m=no∧∀m',Ok m'→bs≠enc m')
end Go.Proofs.YtjemlgdkjilnoaaGreatDoor.Mm
namespace Go.Proofs.YtjemlgdkjilnoaaGreatDoor
set_option linter.unusedVariables false
namespace Wl
open Cm
def rec (c:Cv):List Int:=iA c.e c.n c.l
def fr (c:Cv):List Int:=Fm.cB (rec c)
def aR (l:List Cv):List Int:=Fm.cat (l.map rec)
theorem fI (c:Cv)(l:List Cv):aR (c::l)=fr c++aR l:=rfl
theorem jk (l m:List Cv):aR (l++m)=aR l++aR m:=by unfold aR;rw[List.map_append,Fm.tC]
theorem rW (c:Cv):aR [c]=fr c:=by unfold aR fr;exact Fm.yu _
theorem aeK (c:Cv):1≤(fr c).length:=Fm.yf _
theorem nU {c:Cv}(h:chk c.e c.n c.l=0):(rec c).length≤430:=abk h
theorem lG {c:Cv}(h:chk c.e c.n c.l=0):(fr c).length≤433:=by
 have:=nU h
 unfold fr
 rw[Fm.jF]
 have:=Fm.bP (n:=(rec c).length) (by omega)
 omega
theorem oG {c d:Cv}{bs:List Int}(hc:chk c.e c.n c.l=0)(hd:chk d.e d.n d.l=0)(h:fr c<+:bs)(h':fr d<+:bs):c=d:=by
 obtain⟨e1,e2,e3⟩:=ae5 hc hd (Fm.ny h h')
 cases c
 cases d
 simp only at e1 e2 e3
 rw[e1,e2,e3]
def Lg (ep nu:Int) (bs:List Int) (l:List Cv):Prop:=
 Cm.Good ep nu l∧aR l<+:bs∧∀c,Cm.Good (lastE ep l) (lastN nu l) [c]→¬fr c<+:bs.drop (aR l).length
theorem iH {ep nu:Int}{c:Cv}{l:List Cv}:Cm.Good ep nu (c::l)↔Cm.Good ep nu [c]∧Cm.Good c.e c.n l:=by
 have:=dX [c] l ep nu
 rw[List.singleton_append]at this
 exact this
theorem gL {ep nu:Int}{c:Cv}{l:List Cv}(h:Cm.Good ep nu (c::l)):chk c.e c.n c.l=0:=h.1
theorem nz {ep nu:Int}{bs:List Int}{c:Cv}{l:List Cv}(h:Lg ep nu bs (c::l)):Cm.Good ep nu [c]∧fr c<+:bs∧Lg c.e c.n (bs.drop (fr c).length) l:=by
 obtain⟨h1,h2,h3⟩:=h
 rw[fI]at h2
 obtain⟨g1,g2⟩:=iH.1 h1
 refine⟨g1,(List.prefix_append _ _).trans h2,g2,Fm.iB h2,fun d hd=>?_⟩
 rw[List.drop_drop,←List.length_append,←fI]
 exact h3 d hd
theorem aaU:∀{l m:List Cv} {ep nu:Int} {bs:List Int},Cm.Good ep nu l→aR l<+:bs→Lg ep nu bs m→l<+:m
 |[],_,_,_,_,_,_,_=>List.nil_prefix
 |c::l,[],ep,nu,bs,h,h2,hm=>by
  exact absurd ((List.prefix_append _ _).trans h2) (hm.2.2 c (iH.1 h).1)
 |c::l,d::m,ep,nu,bs,h,h2,hm=>by
  obtain⟨g1,g2,g3⟩:=nz hm
  rw[fI]at h2
  have e:=oG (gL h) (gL g1) ((List.prefix_append _ _).trans h2) g2
  subst e
  have:=aaU (iH.1 h).2 (Fm.iB h2) g3
  exact List.cons_prefix_cons.2 ⟨rfl,this⟩
theorem adK:∀{l m:List Cv} {ep nu:Int} {bs:List Int},Cm.Good ep nu l→bs<+:aR l→Lg ep nu bs m→m<+:l
 |_,[],_,_,_,_,_,_=>List.nil_prefix
 |[],d::m,ep,nu,bs,h,h2,hm=>by
  obtain⟨_,g2,_⟩:=nz hm
  have h1:=(g2.trans h2).length_le
  have h3:=aeK d
  have h4:(aR []).length=0:=rfl
  omega
 |c::l,d::m,ep,nu,bs,h,h2,hm=>by
  obtain⟨g1,g2,g3⟩:=nz hm
  rw[fI]at h2
  have e:=oG (gL h) (gL g1) (List.prefix_append _ _) (g2.trans h2)
  subst e
  obtain⟨t,rfl⟩:=g2
  rw[List.drop_left]at g3
  have ht:t<+:aR l:=by
   obtain⟨u,hu⟩:=h2
   rw[List.append_assoc]at hu
   exact⟨u,List.append_cancel_left hu⟩
  exact List.cons_prefix_cons.2 ⟨rfl,adK (iH.1 h).2 ht g3⟩
theorem zN (l:List Cv)(k:Nat):aR (l.take k)=(aR l).take (aR (l.take k)).length:=by
 have:aR l=aR (l.take k)++aR (l.drop k):=by rw[←jk,List.take_append_drop]
 rw[this,List.take_left]
end Wl
end Go.Proofs.YtjemlgdkjilnoaaGreatDoor
