/- Helps of the proof. No condition. -/
import Derived.Test.YtammlljefhakmaaGreatDoorRows
import Derived.Lib.TrailingZeros
namespace Go.Proofs.YtammlljefhakmaaGreatDoor
set_option maxRecDepth 100000
def word:List Nat→Nat→Nat
 |[],_=>0
 |n::r,i=>if n/64=i then word r i ||| 2^(n%64)else word r i
theorem jl(L:List Nat)(i j:Nat):(word L i).testBit j=decide (j<64∧64*i+j∈L):=by
 induction L with
 |nil=>simp[word]
 | cons n r ih=>
  rw[word]
  by_cases h:n/64=i
  ·rw[if_pos h,Nat.testBit_or,ih,Nat.testBit_two_pow,Bool.eq_iff_iff]
   simp only[Bool.or_eq_true,decide_eq_true_eq,List.mem_cons]
   by_cases hm:64*i+j∈r
   ·simp only[hm,or_true,and_true]
    omega
   ·simp only[hm,or_false,and_false,false_or]
    omega
  ·rw[if_neg h,ih,Bool.eq_iff_iff]
   simp only[decide_eq_true_eq,List.mem_cons]
   by_cases hm:64*i+j∈r
   ·simp only[hm,or_true,and_true]
   ·simp only[hm,or_false,and_false,false_iff]
    omega
theorem word_lt(L:List Nat)(i:Nat):word L i<18446744073709551616:=
 Nat.lt_pow_two_of_testBit (n:=64) _ fun j hj=>by rw[jl];simp;omega
theorem J9{L K:List Nat}{i:Nat}(h:∀j,j<64→(64*i+j∈L↔64*i+j∈K)):word L i=word K i:=by
 apply Nat.eq_of_testBit_eq
 intro j
 rw[jl,jl,Bool.eq_iff_iff]
 simp only[decide_eq_true_eq]
 constructor
 ·rintro⟨h1,h2⟩;exact⟨h1,(h j h1).1 h2⟩
 ·rintro⟨h1,h2⟩;exact⟨h1,(h j h1).2 h2⟩
structure Good(L:List Nat):Prop where
 up:L.Pairwise (· < ·)
 top:∀n∈L,n<1024
theorem Good.nil:Good []:=⟨List.Pairwise.nil,fun n hn=>by simp at hn⟩
theorem Good.tail{n:Nat}{r:List Nat}(h:Good (n::r)):Good r:=⟨(List.pairwise_cons.1 h.up).2,fun m hm=>h.top m (by simp[hm])⟩
theorem Good.head{n:Nat}{r:List Nat}(h:Good (n::r)):∀m∈r,n<m:=(List.pairwise_cons.1 h.up).1
def ins:List Nat→Nat→List Nat
 |[],n=>[n]
 |k::r,n=>if n<k then n::k::r else k::ins r n
def del(L:List Nat)(n:Nat):List Nat:=L.filter (fun m=>m !=n)
theorem Ap(L:List Nat)(n m:Nat):m∈ins L n↔m=n∨m∈L:=by
 induction L with
 |nil=>simp[ins]
 | cons k r ih=>
  rw[ins]
  split
  ·simp
  ·simp only[List.mem_cons,ih]
   constructor
   ·rintro(h|h|h)
    ·exact Or.inr (Or.inl h)
    ·exact Or.inl h
    ·exact Or.inr (Or.inr h)
   ·rintro(h|h|h)
    ·exact Or.inr (Or.inl h)
    ·exact Or.inl h
    ·exact Or.inr (Or.inr h)
theorem Il(L:List Nat)(n m:Nat):m∈del L n↔m∈L∧m≠n:=by simp[del]
theorem Nw:∀(L:List Nat) (n:Nat),L.Pairwise (· < ·)→n∉L→(ins L n).Pairwise (· < ·)
 |[],n,_,_=>by simp[ins]
 | k::r,n,h,hn=>by
  obtain⟨h1,h2⟩:=List.pairwise_cons.1 h
  simp only[List.mem_cons,not_or]at hn
  rw[ins]
  split
  ·rename_i hk
   refine List.pairwise_cons.2 ⟨fun m hm=>?_,h⟩
   rcases List.mem_cons.1 hm with rfl|hm
   ·exact hk
   ·exact Nat.lt_trans hk (h1 m hm)
  ·rename_i hk
   refine List.pairwise_cons.2 ⟨fun m hm=>?_,Nw r n h2 hn.2⟩
   rcases(Ap r n m).1 hm with rfl|hm
   ·omega
   ·exact h1 m hm
theorem Good.ins{L:List Nat}{n:Nat}(h:Good L)(hn:n<1024)(hnot:n∉L):Good (ins L n):=
 ⟨Nw L n h.up hnot,fun m hm=>by
  rcases(Ap L n m).1 hm with rfl|hm
  ·exact hn
  ·exact h.top m hm⟩
theorem Good.del{L:List Nat}(h:Good L)(n:Nat):Good (del L n):=
 ⟨h.up.filter _,fun m hm=>h.top m ((Il L n m).1 hm).1⟩
theorem Ny(L:List Nat)(n:Nat):(ins L n).length=L.length+1:=by
 induction L with
 |nil=>rfl
 |cons k r ih=>rw[ins];split<;>simp[ih]
theorem Ka(L:List Nat)(n i:Nat):word (ins L n) i=if n/64=i then word L i ||| 2^(n%64)else word L i:=by
 have:word (ins L n) i=word (n::L) i:=J9 fun j _=>by rw[Ap,List.mem_cons]
 rw[this,word]
theorem BI(L:List Nat)(n i:Nat):word (del L n) i=if n/64=i then word L i &&& (18446744073709551615-2^(n%64))else word L i:=by
 split
 ·rename_i h
  have hp:2^(n%64)<2^64:=Nat.pow_lt_pow_of_lt (by decide) (by omega)
  apply Nat.eq_of_testBit_eq
  intro j
  rw[Nat.testBit_and,jl,jl,show 18446744073709551615-2^(n%64)=2^64-(2^(n%64)+1) by omega,Nat.testBit_two_pow_sub_succ hp,Nat.testBit_two_pow,Bool.eq_iff_iff]
  simp only[Bool.and_eq_true,decide_eq_true_eq,Il,Bool.not_eq_true',decide_eq_false_iff_not,ne_eq]
  constructor
  ·rintro⟨h1,h2,h3⟩;exact⟨⟨h1,h2⟩,h1,by omega⟩
  ·rintro⟨⟨h1,h2⟩,_,h3⟩;exact⟨h1,h2,by omega⟩
 ·rename_i h
  exact J9 fun j hj=>by
   rw[Il]
   constructor
   ·exact fun x=>x.1
   ·exact fun x=>⟨x,by omega⟩
theorem VR(L:List Nat)(n:Nat):word L (n/64) &&& 2^(n%64)=if n∈L then 2^(n%64)else 0:=by
 apply Nat.eq_of_testBit_eq
 intro j
 have e:64*(n/64)+n%64=n:=by omega
 rw[Nat.testBit_and,jl,Nat.testBit_two_pow]
 by_cases hj:n%64=j
 ·subst hj
  rw[e]
  split
  ·rename_i h;simp[h];omega
  ·rename_i h;simp[h]
 ·split
  ·rw[Nat.testBit_two_pow];simp[hj]
  ·simp[hj]
theorem acL(x k:Nat)(hx:x<2^64)(h1:x.testBit k=true)(h2:∀j,j<k→x.testBit j=false):Lib.ctz 64 x=k∧x &&& (x-1)=x &&& (2^64-1-2^k):=by
 have h0:x≠0:=by intro e;rw[e]at h1;simp at h1
 obtain⟨m,hm,hk⟩:=Lib.ctzFrom_spec 64 x (by omega) hx
 have e:Lib.ctz 64 x=Lib.ctzFrom 64 x:=by simp[Lib.ctz,h0]
 rw[e]
 generalize Lib.ctzFrom 64 x=c at*
 have t:∀j,x.testBit j=if j<c then false else(2*m+1).testBit (j-c):=fun j=>by
  have:=Nat.testBit_two_pow_mul_add (2*m+1) (b:=0) (i:=c) (Nat.two_pow_pos c) j
  rw[Nat.add_zero,←hm]at this
  rw[this]
  split<;>simp
 have hck:c=k:=by
  rcases Nat.lt_trichotomy c k with h|h|h
  ·have:=h2 c h
   rw[t,if_neg (by omega),Nat.sub_self]at this
   simp[Nat.testBit_zero]at this
  ·exact h
  ·rw[t,if_pos h]at h1;cases h1
 subst hck
 refine⟨rfl,?_⟩
 have e1:x-1=2^c*(2*m)+(2^c-1):=by
  rw[hm,Nat.mul_add,Nat.mul_one]
  have:=Nat.two_pow_pos c
  omega
 have hp:2^c<2^64:=Nat.pow_lt_pow_of_lt (by decide) hk
 apply Nat.eq_of_testBit_eq
 intro j
 rw[Nat.testBit_and,Nat.testBit_and,e1,Nat.testBit_two_pow_mul_add _ (by have:=Nat.two_pow_pos c;omega),show 2^64-1-2^c=2^64-(2^c+1) by omega,Nat.testBit_two_pow_sub_succ hp,Nat.testBit_two_pow,t]
 by_cases hj:j<c
 ·simp[hj]
 ·rw[if_neg hj,if_neg hj]
  by_cases hjc:c=j
  ·subst hjc;simp[Nat.testBit_zero]
  ·obtain⟨d,rfl⟩:∃d,j=c+(d+1):=⟨j-c-1,by omega⟩
   rw[show c+(d+1)-c=d+1 by omega,Nat.testBit_succ,Nat.testBit_succ,show(2*m+1)/2=m by omega,show 2*m/2=m by omega]
   by_cases h64:c+(d+1)<64
   ·simp[h64]
   ·have:x.testBit (c+(d+1))=false:=Nat.testBit_lt_two_pow (Nat.lt_of_lt_of_le hx (Nat.pow_le_pow_right (by decide) (by omega)))
    rw[t,if_neg (by omega),show c+(d+1)-c=d+1 by omega,Nat.testBit_succ,show(2*m+1)/2=m by omega]at this
    simp[this]
theorem Kc{n:Nat}{r:List Nat}(h:Good (n::r)):del (n::r) n=r:=by
 have h1:∀m∈r,(m !=n)=true:=fun m hm=>by have:=h.head m hm;simp;omega
 simp[del,List.filter_eq_self.2 h1]
theorem VT{n:Nat}{r:List Nat}(h:Good (n::r))(i:Nat)(hi:i<n/64):word (n::r) i=0:=by
 apply Nat.eq_of_testBit_eq
 intro j
 rw[jl,Nat.zero_testBit]
 simp only[decide_eq_false_iff_not,not_and,List.mem_cons]
 rintro h1 (h2|h2)
 ·omega
 ·have:=h.head _ h2;omega
theorem vH{n:Nat}{r:List Nat}(h:Good (n::r)):word (n::r) (n/64)≠0∧Lib.ctz 64 (word (n::r) (n/64))=n%64∧word (n::r) (n/64) &&& (word (n::r) (n/64)-1)=word r (n/64):=by
 have hb:(word (n::r) (n/64)).testBit (n%64)=true:=by
  rw[jl,show 64*(n/64)+n%64=n by omega]
  simp;omega
 obtain⟨h1,h2⟩:=acL _ (n%64) (word_lt _ _) hb fun j hj=>by
  rw[jl]
  simp only[decide_eq_false_iff_not,not_and,List.mem_cons]
  rintro _ (h2|h2)
  ·omega
  ·have:=h.head _ h2;omega
 refine⟨fun e=>by rw[e]at hb;simp at hb,h1,?_⟩
 rw[h2]
 have:=BI (n::r) n (n/64)
 rw[if_pos rfl,Kc h]at this
 exact this.symm
theorem Fa{n:Nat}{r:List Nat}(i:Nat)(hi:n/64≠i):word r i=word (n::r) i:=by rw[word,if_neg hi]
theorem Ke(i:Nat):word [] i=0:=rfl
def eD(x:Nat):Nat→Nat
 |0=>0
 |k+1=>eD x k+(x.testBit k).toNat
theorem kI(x k:Nat):eD x k≤k:=by
 induction k with
 |zero=>exact Nat.le_refl _
 |succ k ih=>rw[eD];have:=Bool.toNat_le (x.testBit k);omega
theorem Nz(k:Nat):eD 0 k=0:=by
 induction k with
 |zero=>rfl
 |succ k ih=>simp[eD,ih]
theorem VU(x j:Nat)(hj:x.testBit j=false)(k:Nat):eD (x ||| 2^j) k=eD x k+if j<k then 1 else 0:=by
 induction k with
 |zero=>simp[eD]
 | succ k ih=>
  rw[eD,eD,ih,Nat.testBit_or,Nat.testBit_two_pow]
  by_cases h:j=k
  ·subst h
   rw[hj,if_neg (by omega),if_pos (by omega)]
   simp
  ·rw[decide_eq_false h,Bool.or_false]
   by_cases h2:j<k
   ·rw[if_pos h2,if_pos (by omega)];omega
   ·rw[if_neg h2,if_neg (by omega)];omega
theorem NA(n:Nat)(r:List Nat)(hn:n∉r)(i:Nat):eD (word (n::r) i) 64=eD (word r i) 64+if n/64=i then 1 else 0:=by
 rw[word]
 split
 ·rename_i h
  rw[VU _ _ _ 64,if_pos (Nat.mod_lt _ (by decide))]
  rw[jl,←h,show 64*(n/64)+n%64=n by omega]
  simp[hn]
 ·rfl
def l8(L:List Nat):Nat→Nat
 |0=>0
 |m+1=>l8 L m+eD (word L m) 64
theorem RS(m:Nat):l8 [] m=0:=by
 induction m with
 |zero=>rfl
 |succ m ih=>rw[l8,ih,Ke,Nz]
theorem NC(n:Nat)(r:List Nat)(hn:n∉r)(m:Nat):l8 (n::r) m=l8 r m+if n/64<m then 1 else 0:=by
 induction m with
 |zero=>simp[l8]
 | succ m ih=>
  rw[l8,l8,ih,NA n r hn]
  by_cases h:n/64=m
  ·rw[if_pos h,if_neg (by omega),if_pos (by omega)];omega
  ·rw[if_neg h]
   by_cases h2:n/64<m
   ·rw[if_pos h2,if_pos (by omega)];omega
   ·rw[if_neg h2,if_neg (by omega)];omega
theorem RU(L:List Nat)(h:Good L):l8 L 16=L.length:=by
 induction L with
 |nil=>rw[RS];rfl
 |cons n r ih=>
  have hn:n∉r:=fun hm=>by have:=h.head n hm;omega
  rw[NC n r hn,ih h.tail,if_pos (by have:=h.top n (by simp);omega),List.length_cons]
theorem VW(L:List Nat)(m:Nat):l8 L m≤64*m:=by
 induction m with
 |zero=>exact Nat.le_refl _
 |succ m ih=>rw[l8];have:=kI (word L m) 64;omega
theorem wI(a b c d:Nat)(ha:a<256)(hc:c<256):(a+256*b) &&& (c+256*d)=(a &&& c)+256*(b &&& d):=by
 have h1:=@Nat.and_mod_two_pow (a+256*b) (c+256*d) 8
 have h2:=@Nat.and_div_two_pow (a+256*b) (c+256*d) 8
 rw[show(a+256*b)%2^8=a by omega,show(c+256*d)%2^8=c by omega]at h1
 rw[show(a+256*b)/2^8=b by omega,show(c+256*d)/2^8=d by omega]at h2
 omega
def val:List Nat→Nat
 |[]=>0
 |a::r=>a+256*val r
def many(c:Nat):Nat→Nat
 |0=>0
 |k+1=>c+256*many c k
def g1(a:Nat):Nat:=(a/2 &&& 85)+(a &&& 85)
def g2(a:Nat):Nat:=(a/4 &&& 51)+(a &&& 51)
def g3(a:Nat):Nat:=(a/16+a) &&& 15
theorem ahb:∀a,a<256→∀b,b<2→(a/2+128*b) &&& 85=a/2 &&& 85:=by decide+kernel
theorem ahc:∀a,a<256→∀b,b<4→(a/4+64*b) &&& 51=a/4 &&& 51:=by decide+kernel
theorem ahd:∀a,a<69→∀b,b<16→(a/16+a+16*b) &&& 15=(a/16+a) &&& 15:=by decide+kernel
theorem aeX:∀a,a<256→g1 a<256:=by decide+kernel
theorem aeY:∀a,a<256→g2 (g1 a)<256∧g2 (g1 a)<69∧g2 (g1 a)%16<5:=by decide+kernel
theorem sO:∀a,a<256→g3 (g2 (g1 a))=eD a 8:=by decide+kernel
theorem step1:∀l:List Nat,(∀a∈l,a<256)→(val l/2 &&& many 85 l.length)+(val l &&& many 85 l.length)=val (l.map g1)
 |[],_=>rfl
 |a::r,h=>by
  have ha:=h a (by simp)
  have ih:=step1 r (fun x hx=>h x (by simp[hx]))
  simp only[val,List.length_cons,many,List.map_cons]
  rw[←ih,show(a+256*val r)/2=(a/2+128*(val r%2))+256*(val r/2) by omega,wI _ _ _ _ (by omega) (by decide),wI _ _ _ _ ha (by decide),ahb a ha _ (Nat.mod_lt _ (by decide)),g1]
  omega
theorem step2:∀l:List Nat,(∀a∈l,a<256)→(val l/4 &&& many 51 l.length)+(val l &&& many 51 l.length)=val (l.map g2)
 |[],_=>rfl
 |a::r,h=>by
  have ha:=h a (by simp)
  have ih:=step2 r (fun x hx=>h x (by simp[hx]))
  simp only[val,List.length_cons,many,List.map_cons]
  rw[←ih,show(a+256*val r)/4=(a/4+64*(val r%4))+256*(val r/4) by omega,wI _ _ _ _ (by omega) (by decide),wI _ _ _ _ ha (by decide),ahc a ha _ (Nat.mod_lt _ (by decide)),g2]
  omega
theorem val_mod:∀l:List Nat,(∀a∈l,a%16<5)→val l%16<5
 |[],_=>by decide
 |a::r,h=>by have:=h a (by simp);simp only[val];omega
theorem abu:∀l:List Nat,(∀a∈l,a<69∧a%16<5)→(val l/16+val l) &&& many 15 l.length=val (l.map g3)
 |[],_=>rfl
 |a::r,h=>by
  obtain⟨ha,hb⟩:=h a (by simp)
  have hr:∀x∈r,x<69∧x%16<5:=fun x hx=>h x (by simp[hx])
  have ih:=abu r hr
  have hm:=val_mod r (fun x hx=>(hr x hx).2)
  simp only[val,List.length_cons,many,List.map_cons]
  rw[←ih,show(a+256*val r)/16+(a+256*val r)=(a/16+a+16*(val r%16))+256*(val r/16+val r) by omega,wI _ _ _ _ (by omega) (by decide),ahd a ha _ (Nat.mod_lt _ (by decide)),g3]
def bytes:Nat→Nat→List Nat
 |0,_=>[]
 |k+1,x=>x%256::bytes k (x/256)
theorem Kg:∀k x,∀a∈bytes k x,a<256
 |0,_,a,h=>by simp[bytes]at h
 |k+1,x,a,h=>by
  rcases List.mem_cons.1 h with rfl|h
  ·exact Nat.mod_lt _ (by decide)
  ·exact Kg k _ a h
theorem Im:∀k x,(bytes k x).length=k
 |0,_=>rfl
 |k+1,x=>by simp[bytes,Im k]
theorem Fb:∀k x,x<256^k→val (bytes k x)=x
 |0,x,h=>by simp at h;subst h;rfl
 |k+1,x,h=>by
  rw[bytes,val,Fb k (x/256) (by rw[Nat.pow_succ]at h;omega)]
  omega
theorem Fe(x k:Nat):∀m,eD x (k+m)=eD x k+eD (x/2^k) m
 |0=>rfl
 |m+1=>by rw[←Nat.add_assoc,eD,Fe x k m,eD,Nat.testBit_div_two_pow,Nat.add_assoc,Nat.add_comm m k]
theorem Fg(x k:Nat):∀m,m≤k→eD (x%2^k) m=eD x m
 |0,_=>rfl
 |m+1,h=>by
  rw[eD,eD,Fg x k m (by omega),Nat.testBit_mod_two_pow,decide_eq_true (show m<k by omega),Bool.true_and]
def VX:List Nat→Nat
 |[]=>0
 |a::r=>eD a 8+VX r
theorem zF:∀k x,eD x (8*k)=VX (bytes k x)
 |0,_=>rfl
 |k+1,x=>by
  rw[show 8*(k+1)=8+8*k by omega,Fe,zF k,bytes,VX]
  have:=Fg x 8 8 (Nat.le_refl _)
  rw[show x%256=x%2^8 by rfl,this]
theorem dg1(a r:Nat)(ha:a<256):(a+256*r)/256=r:=by omega
theorem dg2(a b r:Nat)(ha:a<256)(hb:b<256):(a+256*(b+256*r))/65536=r:=by omega
theorem dg4(a b c d r:Nat)(ha:a<256)(hb:b<256)(hc:c<256)(hd:d<256):(a+256*(b+256*(c+256*(d+256*r))))/4294967296=r:=by omega
theorem dgm(a r:Nat)(ha:a<128):(a+256*r)%128=a:=by omega
theorem NG:∀l:List Nat,(∀a∈l,a<256)→val l<256^l.length
 |[],_=>by decide
 |a::r,h=>by
  have:=NG r (fun x hx=>h x (by simp[hx]))
  have:=h a (by simp)
  rw[val,List.length_cons,Nat.pow_succ]
  omega
theorem Pk:∀l:List Nat,(∀a∈l,a<69)→val l≤68*many 1 l.length
 |[],_=>by decide
 |a::r,h=>by
  have:=Pk r (fun x hx=>h x (by simp[hx]))
  have:=h a (by simp)
  rw[val,List.length_cons,many]
  omega
theorem acM(c0 c1 c2 c3 c4 c5 c6 c7 u:Nat)(h0:c0≤8)(hu:u=c0+256*(c1+256*(c2+256*(c3+256*(c4+256*(c5+256*(c6+256*c7))))))):
  u+u/256=(c0+c1)+256*((c1+c2)+256*((c2+c3)+256*((c3+c4)+256*((c4+c5)+256*((c5+c6)+256*((c6+c7)+256*c7)))))):=by
 have e:u/256=c1+256*(c2+256*(c3+256*(c4+256*(c5+256*(c6+256*c7))))):=by rw[hu];exact dg1 _ _ (by omega)
 rw[e,hu]
 clear e hu h0
 omega
theorem acN(d0 d1 d2 d3 d4 d5 d6 d7 u:Nat)(h0:d0≤16)(h1:d1≤16)(hu:u=d0+256*(d1+256*(d2+256*(d3+256*(d4+256*(d5+256*(d6+256*d7))))))):
  u+u/65536=(d0+d2)+256*((d1+d3)+256*((d2+d4)+256*((d3+d5)+256*((d4+d6)+256*((d5+d7)+256*(d6+256*d7)))))):=by
 have e:u/65536=d2+256*(d3+256*(d4+256*(d5+256*(d6+256*d7)))):=by rw[hu];exact dg2 _ _ _ (by omega) (by omega)
 rw[e,hu]
 clear e hu h0 h1
 omega
theorem acO(d0 d1 d2 d3 d4 d5 d6 d7 u:Nat)(h0:d0≤32)(h1:d1≤32)(h2:d2≤32)(h3:d3≤32)(hu:u=d0+256*(d1+256*(d2+256*(d3+256*(d4+256*(d5+256*(d6+256*d7))))))):
  u+u/4294967296=(d0+d4)+256*((d1+d5)+256*((d2+d6)+256*((d3+d7)+256*(d4+256*(d5+256*(d6+256*d7)))))):=by
 have e:u/4294967296=d4+256*(d5+256*(d6+256*d7)):=by rw[hu];exact dg4 _ _ _ _ _ (by omega) (by omega) (by omega) (by omega)
 rw[e,hu]
 clear e hu h0 h1 h2 h3
 omega
theorem wJ(a0 a1 a2 a3 a4 a5 a6 a7:Nat)(h0:a0<256)(h1:a1<256)(h2:a2<256)(h3:a3<256)(h4:a4<256)(h5:a5<256)(h6:a6<256)(h7:a7<256):a0+256*(a1+256*(a2+256*(a3+256*(a4+256*(a5+256*(a6+256*a7))))))<18446744073709551616:=by
 have:=NG [a0,a1,a2,a3,a4,a5,a6,a7] (by simp;exact⟨h0,h1,h2,h3,h4,h5,h6,h7⟩)
 simpa[val]using this
theorem RV(c0 c1 c2 c3 c4 c5 c6 c7 u:Nat)(h0:c0≤8)(h1:c1≤8)(h2:c2≤8)(h3:c3≤8)(h4:c4≤8)(h5:c5≤8)(h6:c6≤8)(h7:c7≤8)(hu:u=c0+256*(c1+256*(c2+256*(c3+256*(c4+256*(c5+256*(c6+256*c7))))))):
  u<18446744073709551616∧u+u/256<18446744073709551616∧(u+u/256)+(u+u/256)/65536<18446744073709551616∧(u+u/256+(u+u/256)/65536)+(u+u/256+(u+u/256)/65536)/4294967296<18446744073709551616∧((u+u/256+(u+u/256)/65536)+(u+u/256+(u+u/256)/65536)/4294967296)%128=c0+(c1+(c2+(c3+(c4+(c5+(c6+c7)))))):=by
 have b0:u<18446744073709551616:=by rw[hu];exact wJ _ _ _ _ _ _ _ _ (by omega) (by omega) (by omega) (by omega) (by omega) (by omega) (by omega) (by omega)
 have e1:=acM c0 c1 c2 c3 c4 c5 c6 c7 u h0 hu
 clear hu
 generalize u+u/256=v at*
 have b1:v<18446744073709551616:=by rw[e1];exact wJ _ _ _ _ _ _ _ _ (by omega) (by omega) (by omega) (by omega) (by omega) (by omega) (by omega) (by omega)
 have e2:=acN _ _ _ _ _ _ _ _ v (by omega) (by omega) e1
 clear e1
 generalize v+v/65536=x at*
 have b2:x<18446744073709551616:=by rw[e2];exact wJ _ _ _ _ _ _ _ _ (by omega) (by omega) (by omega) (by omega) (by omega) (by omega) (by omega) (by omega)
 have e3:=acO _ _ _ _ _ _ _ _ x (by omega) (by omega) (by omega) (by omega) e2
 clear e2
 generalize x+x/4294967296=y at*
 have b3:y<18446744073709551616:=by rw[e3];exact wJ _ _ _ _ _ _ _ _ (by omega) (by omega) (by omega) (by omega) (by omega) (by omega) (by omega) (by omega)
 refine⟨b0,b1,b2,b3,?_⟩
 rw[e3,dgm _ _ (by omega)]
 clear e3 b0 b1 b2 b3
 omega
set_option maxHeartbeats 400000 in
theorem RX(x:Nat)(hx:x<18446744073709551616):∃y z u:Nat,(x/2 &&& 6148914691236517205)+(x &&& 6148914691236517205)=y∧(y/4 &&& 3689348814741910323)+(y &&& 3689348814741910323)=z∧(z/16+z) &&& 1085102592571150095=u∧
  y<18446744073709551616∧z/16+z<18446744073709551616∧z<18446744073709551616∧u<18446744073709551616∧u+u/256<18446744073709551616∧(u+u/256)+(u+u/256)/65536<18446744073709551616∧(u+u/256+(u+u/256)/65536)+(u+u/256+(u+u/256)/65536)/4294967296<18446744073709551616∧((u+u/256+(u+u/256)/65536)+(u+u/256+(u+u/256)/65536)/4294967296)%128=eD x 64:=by
 have hv:val (bytes 8 x)=x:=Fb 8 x (by simpa using hx)
 have hl:=Kg 8 x
 have hp:eD x 64=VX (bytes 8 x):=zF 8 x
 simp only[bytes]at hv hl hp
 generalize x%256=a0 at*
 generalize x/256%256=a1 at*
 generalize x/256/256%256=a2 at*
 generalize x/256/256/256%256=a3 at*
 generalize x/256/256/256/256%256=a4 at*
 generalize x/256/256/256/256/256%256=a5 at*
 generalize x/256/256/256/256/256/256%256=a6 at*
 generalize x/256/256/256/256/256/256/256%256=a7 at*
 have h0:=hl a0 (by simp)
 have h1:=hl a1 (by simp)
 have h2:=hl a2 (by simp)
 have h3:=hl a3 (by simp)
 have h4:=hl a4 (by simp)
 have h5:=hl a5 (by simp)
 have h6:=hl a6 (by simp)
 have h7:=hl a7 (by simp)
 have s1:=step1 [a0,a1,a2,a3,a4,a5,a6,a7] hl
 rw[hv,show many 85 [a0,a1,a2,a3,a4,a5,a6,a7].length=6148914691236517205 by rfl]at s1
 have hl1:∀a∈[a0,a1,a2,a3,a4,a5,a6,a7].map g1,a<256:=fun a ha=>by
  obtain⟨b,hb,rfl⟩:=List.mem_map.1 ha
  exact aeX b (hl b hb)
 have s2:=step2 _ hl1
 rw[←s1,show many 51 ([a0,a1,a2,a3,a4,a5,a6,a7].map g1).length=3689348814741910323 by rfl]at s2
 have hl2:∀a∈([a0,a1,a2,a3,a4,a5,a6,a7].map g1).map g2,a<69∧a%16<5:=fun a ha=>by
  obtain⟨b,hb,rfl⟩:=List.mem_map.1 ha
  obtain⟨c,hc,rfl⟩:=List.mem_map.1 hb
  exact(aeY c (hl c hc)).2
 have s3:=abu _ hl2
 rw[←s2,show many 15 (([a0,a1,a2,a3,a4,a5,a6,a7].map g1).map g2).length=1085102592571150095 by rfl]at s3
 have by1:=NG _ hl1
 rw[show([a0,a1,a2,a3,a4,a5,a6,a7].map g1).length=8 from rfl,show 256^8=18446744073709551616 by decide]at by1
 have bz1:=Pk _ (fun a ha=>(hl2 a ha).1)
 rw[show many 1 (([a0,a1,a2,a3,a4,a5,a6,a7].map g1).map g2).length=72340172838076673 by rfl]at bz1
 rw[←s1]at by1
 rw[←s2]at bz1
 refine⟨_,_,_,rfl,rfl,rfl,by1,by omega,by omega,?_⟩
 simp only[List.map_cons,List.map_nil]at s1 s2 s3
 rw[sO a0 h0,sO a1 h1,sO a2 h2,sO a3 h3,sO a4 h4,sO a5 h5,sO a6 h6,sO a7 h7]at s3
 rw[hp]
 simp only[val,VX,Nat.mul_zero,Nat.add_zero]at s3 ⊢
 exact RV _ _ _ _ _ _ _ _ _ (kI a0 8) (kI a1 8) (kI a2 8) (kI a3 8) (kI a4 8) (kI a5 8) (kI a6 8) (kI a7 8) s3
end Go.Proofs.YtammlljefhakmaaGreatDoor
