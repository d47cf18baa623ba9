import PyProof.Rows.All
import Wide.All
import OpenK.AllK
import Wide.FinOn
import Open.SpecLaws
import KE.OsGo
import HandS.ForSpec
import HandS.Comp
import HandS.Iter
import HandS.Walk
import HandS.Dict
import PySem.Challenge.RW_everywaydesk_s03_has
set_option Elab.async false
set_option linter.all false
set_option maxRecDepth 100000
set_option maxHeartbeats 2000000
namespace KM
open Kzt1 (coords pointNo space okField)

/-- reversed Horner -/
def hor (p : Nat) (l : List Nat) : Nat := l.foldr (fun c a => a * p + c) 0

def isDir (p n v : Nat) : Bool := decide (v < p ^ n) && ((coords p n v).find? (fun x => x != 0) == some 1)

theorem directions_eq (p n : Nat) : Kzt2.directions p n = (List.range (p ^ n)).filter (isDir p n) := by
  unfold Kzt2.directions space
  apply List.filter_congr
  intro v hv
  have := List.mem_range.mp hv
  simp [isDir, this]

theorem directions_contains (p n v : Nat) : (Kzt2.directions p n).contains v = isDir p n v := by
  rw [directions_eq]
  cases h : isDir p n v with
  | true =>
    have hlt : v < p ^ n := by
      simp [isDir] at h
      exact h.1
    simp [List.contains_iff_mem, hlt, h]
  | false =>
    simp [h]

theorem coords_length (p n x : Nat) : (coords p n x).length = n := by simp [coords]
theorem coords_succ (p n x : Nat) : coords p (n + 1) x = coords p n x ++ [x / p ^ n % p] := by
  simp [coords, List.range_succ]
theorem coords_get (p n x i : Nat) (h : i < n) : (coords p n x)[i]? = some (x / p ^ i % p) := by
  simp [coords, h]

theorem sum_from (p : Nat) : ∀ (l : List Nat) (k a : Nat), (∀ c ∈ l, c < p) →
    ((l.zipIdx k).map fun y => y.1 % p * p ^ y.2).foldl (· + ·) a = a + hor p l * p ^ k
  | [], k, a, _ => by simp [hor]
  | c :: l, k, a, h => by
    have hc : c < p := h c (by simp)
    rw [List.zipIdx_cons, List.map_cons, List.foldl_cons, sum_from p l (k + 1) _ (fun d hd => h d (by simp [hd]))]
    show a + c % p * p ^ k + hor p l * p ^ (k + 1) = a + (hor p l * p + c) * p ^ k
    rw [Nat.mod_eq_of_lt hc, Nat.pow_succ, Nat.add_mul, Nat.mul_assoc (hor p l) p, Nat.mul_comm p (p ^ k)]
    omega

theorem pointNo_eq (p : Nat) (l : List Nat) (h : ∀ c ∈ l, c < p) : pointNo p l = hor p l := by
  unfold pointNo
  rw [sum_from p l 0 0 h]
  simp

/-- the numbers of the t-th point of a line -/
def lineNums (p n x v t : Nat) : List Nat := (List.range n).map fun i => (x / p ^ i % p + t * (v / p ^ i % p)) % p

theorem shifted_eq (p n x v t : Nat) (hp : 0 < p) : Kzt2.shifted p n x v t = hor p (lineNums p n x v t) := by
  have e : (((coords p n x).zip (coords p n v)).map fun y => (y.1 + t * y.2) % p) = lineNums p n x v t := by
    simp [coords, lineNums, List.zip_map', List.map_map, Function.comp_def]
  unfold Kzt2.shifted
  rw [e, pointNo_eq]
  intro c hc
  simp [lineNums] at hc
  obtain ⟨i, _, rfl⟩ := hc
  exact Nat.mod_lt _ hp

theorem lineAt_eq (p n x v : Nat) (hp : 0 < p) : Kzt2.lineAt p n x v = (List.range p).map fun t => hor p (lineNums p n x v t) := by
  unfold Kzt2.lineAt
  apply List.map_congr_left
  intro t _
  exact shifted_eq p n x v t hp

theorem ok_cases {p n : Nat} (h : okField p n = true) : (p = 2 ∨ p = 3 ∨ p = 5 ∨ p = 7) ∧ 1 ≤ n ∧ n ≤ 3 := by
  simp [okField] at h
  omega
theorem ok_pow {p n : Nat} (h : okField p n = true) : p ^ n ≤ 343 := by
  obtain ⟨a, b, c⟩ := ok_cases h
  have : n = 1 ∨ n = 2 ∨ n = 3 := by omega
  rcases a with rfl | rfl | rfl | rfl <;> rcases this with rfl | rfl | rfl <;> decide
/-- the elements of a list, walked from its end -/
theorem hor_cons (p c : Nat) (l : List Nat) : hor p (c :: l) = hor p l * p + c := rfl
theorem hor_drop (p : Nat) (l : List Nat) (i c : Nat) (h : l[l.length - 1 - i]? = some c) (hi : i < l.length) :
    hor p (l.drop (l.length - (i + 1))) = hor p (l.drop (l.length - i)) * p + c := by
  have e : l.length - (i + 1) = l.length - 1 - i := by omega
  have hlt : l.length - 1 - i < l.length := by omega
  rw [e, List.drop_eq_getElem_cons hlt, hor_cons]
  have e2 : l.length - 1 - i + 1 = l.length - i := by omega
  rw [e2]
  congr 1
  rw [List.getElem?_eq_getElem hlt] at h
  exact Option.some.inj h

theorem find_none_take {l : List Nat} {i : Nat} {c : Nat} (h : (l.take i).find? (fun x => x != 0) = none) (hc : l[i]? = some c) (c0 : c = 0) :
    (l.take (i + 1)).find? (fun x => x != 0) = none := by
  rw [List.take_add_one, hc, List.find?_append, h]
  simp [c0]
theorem find_some_take {l : List Nat} {i : Nat} {c : Nat} (h : (l.take i).find? (fun x => x != 0) = none) (hc : l[i]? = some c) (c0 : c ≠ 0) :
    l.find? (fun x => x != 0) = some c := by
  have hlt : i < l.length := by
    rcases Nat.lt_or_ge i l.length with q | q
    · exact q
    · rw [List.getElem?_eq_none q] at hc
      cases hc
  have e : l = l.take i ++ l.drop i := (List.take_append_drop i l).symm
  have ed : l.drop i = c :: l.drop (i + 1) := by
    rw [List.drop_eq_getElem_cons hlt]
    rw [List.getElem?_eq_getElem hlt] at hc
    rw [Option.some.inj hc]
  rw [e, List.find?_append, h, ed]
  simp [c0]
end KM
namespace KM
open Kzt1 (coords pointNo space okField)

theorem coords_cons (p n x : Nat) : coords p (n + 1) x = x % p :: coords p n (x / p) := by
  unfold coords
  rw [List.range_succ_eq_map, List.map_cons, List.map_map]
  congr 1
  · simp
  · apply List.map_congr_left
    intro i _
    show x / p ^ (i + 1) % p = x / p / p ^ i % p
    rw [Nat.pow_succ, Nat.mul_comm, Nat.div_div_eq_div_mul]
theorem hor_lt (p : Nat) : ∀ l : List Nat, (∀ c ∈ l, c < p) → hor p l < p ^ l.length
  | [], _ => by simp [hor]
  | c :: l, h => by
    have ih := hor_lt p l (fun d hd => h d (by simp [hd]))
    have hc : c < p := h c (by simp)
    rw [hor_cons, List.length_cons, Nat.pow_succ]
    calc hor p l * p + c < hor p l * p + p := by omega
      _ = (hor p l + 1) * p := by rw [Nat.add_mul, Nat.one_mul]
      _ ≤ p ^ l.length * p := Nat.mul_le_mul_right _ ih
theorem coords_hor (p : Nat) : ∀ l : List Nat, (∀ c ∈ l, c < p) → coords p l.length (hor p l) = l
  | [], _ => rfl
  | c :: l, h => by
    have hc : c < p := h c (by simp)
    have hp : 0 < p := by omega
    rw [List.length_cons, coords_cons, hor_cons]
    have e1 : (hor p l * p + c) % p = c := by rw [Nat.add_comm, Nat.add_mul_mod_self_right, Nat.mod_eq_of_lt hc]
    have e2 : (hor p l * p + c) / p = hor p l := by rw [Nat.add_comm, Nat.add_mul_div_right _ _ hp, Nat.div_eq_of_lt hc, Nat.zero_add]
    rw [e1, e2, coords_hor p l (fun d hd => h d (by simp [hd]))]
theorem hor_coords (p : Nat) : ∀ n x : Nat, x < p ^ n → hor p (coords p n x) = x
  | 0, x, h => by
    have : x = 0 := by simpa using h
    subst this
    rfl
  | n + 1, x, h => by
    rw [coords_cons, hor_cons, hor_coords p n (x / p)]
    · rw [Nat.mul_comm]
      exact Nat.div_add_mod x p
    · rw [Nat.pow_succ] at h
      exact Nat.div_lt_of_lt_mul (by rw [Nat.mul_comm]; exact h)

theorem lineNums_lt {p n x v t : Nat} (hp : 0 < p) : ∀ c ∈ lineNums p n x v t, c < p := by
  intro c hc
  simp [lineNums] at hc
  obtain ⟨i, _, rfl⟩ := hc
  exact Nat.mod_lt _ hp
theorem lineNums_length (p n x v t : Nat) : (lineNums p n x v t).length = n := by simp [lineNums]
theorem shifted_lt {p n x v t : Nat} (hp : 0 < p) : Kzt2.shifted p n x v t < p ^ n := by
  rw [shifted_eq p n x v t hp]
  have := hor_lt p (lineNums p n x v t) (lineNums_lt hp)
  rwa [lineNums_length] at this
theorem coords_shifted {p n x v t : Nat} (hp : 0 < p) : coords p n (Kzt2.shifted p n x v t) = lineNums p n x v t := by
  have := coords_hor p (lineNums p n x v t) (lineNums_lt hp)
  rwa [lineNums_length, ← shifted_eq p n x v t hp] at this
theorem digit_shifted {p n x v t i : Nat} (hp : 0 < p) (hi : i < n) : Kzt2.shifted p n x v t / p ^ i % p = (x / p ^ i % p + t * (v / p ^ i % p)) % p := by
  have e := congrArg (fun l : List Nat => l[i]?) (coords_shifted (p := p) (n := n) (x := x) (v := v) (t := t) hp)
  simp only [coords_get p n _ i hi] at e
  rw [show (lineNums p n x v t)[i]? = some ((x / p ^ i % p + t * (v / p ^ i % p)) % p) by
    unfold lineNums
    rw [List.getElem?_map, List.getElem?_range hi]
    rfl] at e
  exact Option.some.inj e
theorem shifted_shifted {p n x v t u : Nat} (hp : 0 < p) : Kzt2.shifted p n (Kzt2.shifted p n x v t) v u = Kzt2.shifted p n x v ((t + u) % p) := by
  rw [shifted_eq p n (Kzt2.shifted p n x v t) v u hp, shifted_eq p n x v ((t + u) % p) hp]
  congr 1
  unfold lineNums
  apply List.map_congr_left
  intro i hi
  have hi := List.mem_range.mp hi
  rw [digit_shifted hp hi]
  generalize x / p ^ i % p = a
  generalize v / p ^ i % p = b
  rw [Nat.mod_add_mod, Nat.add_mod a ((t + u) % p * b) p, Nat.mul_mod ((t + u) % p) b p, Nat.mod_mod, ← Nat.mul_mod, ← Nat.add_mod, Nat.add_mul, Nat.add_assoc]
theorem shifted_zero {p n x v : Nat} (hp : 0 < p) (hx : x < p ^ n) : Kzt2.shifted p n x v 0 = x := by
  rw [shifted_eq p n x v 0 hp]
  have : lineNums p n x v 0 = coords p n x := by
    unfold lineNums coords
    apply List.map_congr_left
    intro i _
    rw [Nat.zero_mul, Nat.add_zero, Nat.mod_mod]
  rw [this, hor_coords p n x hx]
theorem mem_lineAt {p n x v y : Nat} : y ∈ Kzt2.lineAt p n x v ↔ ∃ t < p, Kzt2.shifted p n x v t = y := by
  unfold Kzt2.lineAt
  simp
/-- some line in the direction v lies in s -/
def onLine (p n : Nat) (s : List Nat) (v x : Nat) : Bool := (Kzt2.lineAt p n x v).all fun y => s.contains y
theorem onLine_iff {p n : Nat} {s : List Nat} {v x : Nat} : onLine p n s v x = true ↔ ∀ t < p, Kzt2.shifted p n x v t ∈ s := by
  unfold onLine
  rw [List.all_eq_true]
  constructor
  · intro h t ht
    simpa using h _ (mem_lineAt.mpr ⟨t, ht, rfl⟩)
  · intro h y hy
    obtain ⟨t, ht, rfl⟩ := mem_lineAt.mp hy
    simpa using h t ht
/-- a least value of a function below p -/
theorem least_at (f : Nat → Nat) : ∀ p : Nat, 0 < p → ∃ t < p, ∀ u < p, f t ≤ f u
  | 1, _ => ⟨0, by omega, fun u hu => by have : u = 0 := by omega
                                         subst this
                                         exact Nat.le_refl _⟩
  | p + 2, _ => by
    obtain ⟨t, ht, h⟩ := least_at f (p + 1) (by omega)
    by_cases c : f t ≤ f (p + 1)
    · refine ⟨t, by omega, fun u hu => ?_⟩
      by_cases e : u = p + 1
      · subst e
        exact c
      · exact h u (by omega)
    · refine ⟨p + 1, by omega, fun u hu => ?_⟩
      by_cases e : u = p + 1
      · subst e
        exact Nat.le_refl _
      · have := h u (by omega)
        omega
theorem has_iff {p n : Nat} {s : List Nat} {v : Nat} (hp : 0 < p) : Kzt2.has p n s v = true ↔ ∃ x < p ^ n, onLine p n s v x = true := by
  unfold Kzt2.has Kzt2.linesIn space
  rw [List.any_eq_true]
  constructor
  · rintro ⟨x, hx, h⟩
    have := (List.mem_filter.mp hx).1
    exact ⟨x, List.mem_range.mp this, h⟩
  · rintro ⟨x, hx, h⟩
    obtain ⟨t, ht, hmin⟩ := least_at (Kzt2.shifted p n x v) p hp
    refine ⟨Kzt2.shifted p n x v t, List.mem_filter.mpr ⟨List.mem_range.mpr (shifted_lt hp), ?_⟩, ?_⟩
    · rw [List.all_eq_true]
      intro y hy
      obtain ⟨u, hu, rfl⟩ := mem_lineAt.mp hy
      rw [shifted_shifted hp]
      exact decide_eq_true (hmin _ (Nat.mod_lt _ hp))
    · show onLine p n s v _ = true
      rw [onLine_iff]
      intro u hu
      rw [shifted_shifted hp]
      exact onLine_iff.mp h _ (Nat.mod_lt _ hp)
/-- by any start -/
theorem has_range {p n : Nat} {s : List Nat} {v : Nat} (hp : 0 < p) : Kzt2.has p n s v = (List.range (p ^ n)).any (onLine p n s v) := by
  rw [Bool.eq_iff_iff, has_iff hp, List.any_eq_true]
  constructor
  · rintro ⟨x, hx, h⟩
    exact ⟨x, List.mem_range.mpr hx, h⟩
  · rintro ⟨x, hx, h⟩
    exact ⟨x, List.mem_range.mp hx, h⟩
/-- by the set's own points -/
theorem has_set {p n : Nat} {s : List Nat} {v : Nat} (hp : 0 < p) (hs : ∀ y ∈ s, y < p ^ n) : Kzt2.has p n s v = s.any (onLine p n s v) := by
  rw [Bool.eq_iff_iff, has_iff hp, List.any_eq_true]
  constructor
  · rintro ⟨x, hx, h⟩
    refine ⟨x, ?_, h⟩
    have := onLine_iff.mp h 0 hp
    rwa [shifted_zero hp hx] at this
  · rintro ⟨x, hx, h⟩
    exact ⟨x, hs x hx, h⟩
end KM
namespace KM
open Kzt1 (rising okSet okField)
/-- a row that goes on rising from m, below c -/
def okFrom (c : Nat) : Int → List Nat → Bool
  | _, [] => true
  | m, x :: l => decide (m < (x : Int)) && decide ((x : Int) < (c : Int)) && okFrom c (x : Int) l
theorem okFrom_nat (c : Nat) : ∀ (l : List Nat) (a : Nat), okFrom c (a : Int) l = (rising (a :: l) && l.all fun x => decide (x < c))
  | [], a => by simp [okFrom, rising]
  | x :: l, a => by
    have ih := okFrom_nat c l x
    unfold okFrom
    rw [ih]
    have e1 : decide ((a : Int) < (x : Int)) = decide (a < x) := decide_eq_decide.mpr (by omega)
    have e2 : decide ((x : Int) < (c : Int)) = decide (x < c) := decide_eq_decide.mpr (by omega)
    rw [e1, e2]
    show _ = ((decide (a < x) && rising (x :: l)) && (decide (x < c) && l.all fun x => decide (x < c)))
    cases decide (a < x) <;> cases decide (x < c) <;> cases rising (x :: l) <;> rfl
theorem okFrom_set (p n : Nat) (s : List Nat) : okFrom (p ^ n) (-1) s = okSet p n s := by
  cases s with
  | nil => rfl
  | cons x l =>
    unfold okFrom okSet
    rw [okFrom_nat]
    have e1 : decide ((-1 : Int) < (x : Int)) = true := decide_eq_true (by omega)
    have e2 : decide ((x : Int) < ((p ^ n : Nat) : Int)) = decide (x < p ^ n) := decide_eq_decide.mpr (by omega)
    rw [e1, e2, List.all_cons]
    cases decide (x < p ^ n) <;> cases rising (x :: l) <;> rfl
theorem rising_pair : ∀ l : List Nat, rising l = true → l.Pairwise (· < ·)
  | [], _ => List.Pairwise.nil
  | [a], _ => List.pairwise_singleton _ _
  | a :: b :: l, h => by
    have h' : (decide (a < b) && rising (b :: l)) = true := h
    rw [Bool.and_eq_true] at h'
    have ih := rising_pair (b :: l) h'.2
    have hab := of_decide_eq_true h'.1
    refine List.pairwise_cons.mpr ⟨fun c hc => ?_, ih⟩
    rcases List.mem_cons.mp hc with rfl | hc
    · exact hab
    · have := (List.pairwise_cons.mp ih).1 c hc
      omega
theorem okSet_nodup {p n : Nat} {s : List Nat} (h : okSet p n s = true) : s.Nodup := by
  unfold okSet at h
  rw [Bool.and_eq_true] at h
  exact (rising_pair s h.1).imp (fun hab => Nat.ne_of_lt hab)
theorem okSet_lt {p n : Nat} {s : List Nat} (h : okSet p n s = true) : ∀ y ∈ s, y < p ^ n := by
  unfold okSet at h
  rw [Bool.and_eq_true, List.all_eq_true] at h
  exact fun y hy => of_decide_eq_true (h.2 y hy)
theorem nat_list (s : List Int) (h : ∀ z ∈ s, 0 ≤ z) : ∃ l : List Nat, s = l.map (fun (y : Nat) => (y : Int)) := by
  refine ⟨s.map Int.toNat, ?_⟩
  rw [List.map_map]
  conv => lhs; rw [← List.map_id s]
  apply List.map_congr_left
  intro z hz
  have := h z hz
  show z = ((z.toNat : Nat) : Int)
  omega
theorem natsOf_map (l : List Nat) : (l.map (fun (y : Nat) => (y : Int))).map Int.toNat = l := by
  rw [List.map_map]
  conv => rhs; rw [← List.map_id l]
  apply List.map_congr_left
  intro y _
  rfl
theorem any_take_succ {α : Type} (f : α → Bool) (l : List α) (i : Nat) (x : α) (h : l[i]? = some x) : (l.take (i + 1)).any f = ((l.take i).any f || f x) := by
  rw [List.take_add_one, h, List.any_append]
  simp
end KM
namespace KM
open PySem PySem.Spec PyProof.Rows L2
def topS (i : Nat) : Stmt := PySem.Challenge.pw_everywaydesk_s03_has.main.body.getD i (.Pass ⟨0, 0, 0, 0⟩)
abbrev sTop : Stmt := topS 5
abbrev sSpace : Stmt := topS 6
abbrev sCount : Stmt := topS 7
abbrev sPoint : Stmt := topS 8
abbrev sNums : Stmt := topS 9
abbrev sUp : Stmt := topS 10
abbrev sSet : Stmt := topS 11
abbrev sMem : Stmt := topS 12
abbrev sDir : Stmt := topS 13
abbrev sPol : Stmt := topS 14
abbrev sHl : Stmt := topS 15
end KM
namespace KM
open PySem PySem.Spec PyProof.Rows L2
abbrev iv (k : Nat) : V := .int (k : Int)
def ivs (l : List Nat) : List V := l.map iv
theorem ivs_length (l : List Nat) : (ivs l).length = l.length := List.length_map ..
theorem ivs_append (a b : List Nat) : ivs (a ++ b) = ivs a ++ ivs b := List.map_append ..
theorem ivs_get {l : List Nat} {i : Nat} {c : Nat} (h : l[i]? = some c) : (ivs l)[i]? = some (iv c) := by
  unfold ivs
  rw [List.getElem?_map, h]
  rfl
theorem ivs_at {l : List Nat} {i : Nat} {x : V} (h : (ivs l)[i]? = some x) : ∃ c, l[i]? = some c ∧ x = iv c := by
  unfold ivs at h
  rw [List.getElem?_map] at h
  cases e : l[i]? with
  | none =>
    rw [e] at h
    cases h
  | some c =>
    rw [e] at h
    exact ⟨c, rfl, (Option.some.inj h).symm⟩
theorem same_upd {H : Hp} {p : Addr} {o : HO} (h : H p = none) : Same H (upd H p o) := fun b x e => by
  rw [upd_ne (ne_of_none e h)]
  exact e
theorem same_new {H H' : Hp} {p : Addr} {o : HO} (s : Same H H') (h : H p = none) : Same H (upd H' p o) := fun b x e => by
  rw [upd_ne (ne_of_none e h)]
  exact s _ _ e
theorem ne_free {H : Hp} {a b : Addr} {o : HO} (h : H a = some o) (n : H b = none) : b ≠ a := fun e => by
  rw [e, h] at n
  cases n
theorem decide_iv (a b : Nat) : decide (iv a = iv b) = decide (a = b) := by
  by_cases h : a = b
  · subst h; simp
  · have : iv a ≠ iv b := fun e => h (by have := V.int.inj e; omega)
    simp [h, this]
theorem sz {n : Nat} (h : n ≤ 1000) : n < sizeLine := small1000 h

structure Txt (K : PySem.W.Frag) (mg : Str → Option Value) (aP : Addr) (tM tW tN : Nat) : Prop where
  gP : mg "PRIMES" = some (.ref aP)
  hP : ∀ H : Hp, SqT K H aP (ivs [2, 3, 5, 7])
  gM : mg "MOST_NUMBERS" = some (.int 3 tM)
  gW : mg "WRONG_FORM" = some (.int (-22) tW)
  range : mg "range" = none

/-! ### the promises -/
def spSpace : Sp := fun vs H Q _ => ∃ p n : Nat, vs = [iv p, iv n] ∧ Q (.bl (Kzt1.okField p n)) H
def spCount : Sp := fun vs H Q _ => ∃ p n : Nat, vs = [iv p, iv n] ∧ p ≤ 7 ∧ n ≤ 3 ∧ Q (iv (p ^ n)) H
def spPoint : Sp := fun vs H Q _ => ∃ p n x : Nat, vs = [iv p, iv n, iv x] ∧ p ≤ 7 ∧ n ≤ 3 ∧ Q (.bl (decide (x < p ^ n))) H
def spNums : Sp := fun vs H Q _ => ∃ p n x : Nat, vs = [iv p, iv n, iv x] ∧ 0 < p ∧ p ≤ 7 ∧ n ≤ 3 ∧ ∀ (H' : Hp) (a : Addr), Same H H' → H a = none → H' a = some (.lst (ivs (Kzt1.coords p n x))) → Q (.ref a) H'
def spDir : Sp := fun vs H Q _ => ∃ p n v : Nat, vs = [iv p, iv n, iv v] ∧ 0 < p ∧ p ≤ 7 ∧ n ≤ 3 ∧ ∀ H' : Hp, Same H H' → Q (.bl (isDir p n v)) H'

section
variable {P : Program} {w : World} {K : PySem.W.Frag} {mg : Str → Option Value} {base : Heap} {aP : Addr} {tM tW tN : Nat}

theorem scSpace : FnScope ["p", "n"] ["p", "n"] (defScope sSpace) := ⟨rfl, rfl, rfl, by decide +kernel, rfl, by decide +kernel, by decide +kernel⟩
theorem in_primes (p : Nat) : inV (iv p) (ivs [2, 3, 5, 7]) = (p == 2 || p == 3 || p == 5 || p == 7) := by
  have e : ∀ q : Nat, eqV (iv q) (iv p) = (p == q) := fun q => by
    show ((q : Int) == (p : Int)) = (p == q)
    rw [Bool.eq_iff_iff]
    simp only [beq_iff_eq]
    omega
  show (eqV (iv 2) (iv p) || (eqV (iv 3) (iv p) || (eqV (iv 5) (iv p) || (eqV (iv 7) (iv p) || false)))) = _
  rw [e, e, e, e, Bool.or_false, Bool.or_assoc, Bool.or_assoc]
theorem ok_space {f : Addr} {fd : FuncData} {k : Nat} (F : Fun K "is_space" "is_space" sSpace f fd) (T : Txt K mg aP tM tW tN) : FnOk P w K mg base CX0 (k + 1) f fd ["p", "n"] spSpace := by
  refine F.ok scSpace (fun vs H Q E h => ?_) (fun cdv A outer s H vs Q E hr h => ?_)
  · obtain ⟨p, n, rfl, _⟩ := h
    rfl
  · obtain ⟨p, n, rfl, q⟩ := h
    refine ⟨_, pss_one (ps_ret (pe_and (pe_cmpR op_in_seq (pv 0) (pe_glob (v := .ref aP) (by rfl) T.gP rfl) (by rfl)) (pe_one (pe_chain op_le op_le pe_int (pv 1) (pe_glob (v := .int 3) (by rfl) T.gM ⟨_, rfl⟩))))), ?_⟩
    refine ⟨iv p, rfl, aP, ivs [2, 3, 5, 7], rfl, .inr (T.hP H), rfl, rfl, _, rfl, ?_⟩
    show if inV (iv p) (ivs [2, 3, 5, 7]) = true then _ else _
    rw [in_primes]
    refine ite2 (fun e => ?_) (fun e => ?_)
    · refine ⟨iv n, rfl, 1, n, rfl, rfl, _, rfl, ite2 (fun e1 => ?_) (fun e1 => ?_)⟩
      · refine ⟨n, 3, rfl, rfl, ?_⟩
        have e2 : Kzt1.okField p n = decide ((n : Int) ≤ 3) := by
          have h1 : 1 ≤ n := by have := of_decide_eq_true e1; omega
          unfold Kzt1.okField
          rw [e, decide_eq_true h1, Bool.true_and, Bool.true_and]
          exact decide_eq_decide.mpr (by omega)
        show Q (.bl (decide ((n : Int) ≤ 3))) H
        rw [← e2]
        exact q
      · have h1 : ¬ 1 ≤ n := fun z => e1 (decide_eq_true (by omega))
        have e2 : Kzt1.okField p n = false := by
          unfold Kzt1.okField
          rw [decide_eq_false h1, Bool.and_false, Bool.false_and]
        show Q (.bl false) H
        rw [← e2]
        exact q
    · have e2 : Kzt1.okField p n = false := by
        unfold Kzt1.okField
        rw [Bool.eq_false_iff.mpr e, Bool.false_and, Bool.false_and]
      show Q (.bl false) H
      rw [← e2]
      exact q

theorem scCount : FnScope ["p", "n", "count", "place"] ["p", "n"] (defScope sCount) := ⟨rfl, rfl, rfl, by decide +kernel, rfl, by decide +kernel, by decide +kernel⟩
theorem ok_count {f : Addr} {fd : FuncData} {k : Nat} (F : Fun K "count_points" "count_points" sCount f fd) (T : Txt K mg aP tM tW tN) : FnOk P w K mg base CX0 (k + 1) f fd ["p", "n"] spCount := by
  refine F.ok scCount (fun vs H Q E h => ?_) (fun cdv A outer s H vs Q E hr h => ?_)
  · obtain ⟨p, n, rfl, _⟩ := h
    rfl
  · obtain ⟨p, n, rfl, hp, hn, q⟩ := h
    refine ⟨_, pss_cons (ps_set (i := 2) scCount.nd rfl (.inl rfl) pe_int)
      (pss_cons (ps_for PassesOwn.never rfl (pi_range1 (by rfl) T.range (pa_cons (pv 1) pa_nil)) (pg_name (i := 3) scCount.nd rfl (.inl rfl))
        (pss_one (ps_set (i := 2) scCount.nd rfl (.inl rfl) (pe_op op_mul (pv 2) (pv 0)))))
      (pss_one (ps_ret (pv 2)))), ?_⟩
    refine ⟨iv n, rfl, (n : Int), rfl, by omega, by omega, for_range (n := (n : Int).toNat) (fun i σ H' => ∃ y, σ = [some (iv p), some (iv n), some (iv (p ^ i)), y] ∧ H' = H) ⟨none, rfl, rfl⟩ ?_ ?_⟩
    · rintro i σ H' hi ⟨y, rfl, rfl⟩
      refine ⟨iv (p ^ i), rfl, iv p, rfl, _, _, rfl, rfl, .inr ⟨by omega, by omega⟩, some (.int (0 + (i : Int))), ?_, rfl⟩
      show [some (iv p), some (iv n), some (V.int ((p ^ i : Nat) * (p : Int))), _] = _
      rw [show ((p ^ i : Nat) * (p : Int)) = ((p ^ (i + 1) : Nat) : Int) by rw [Nat.pow_succ, Int.natCast_mul]]
    · rintro σ H' ⟨y, rfl, rfl⟩
      rw [Int.toNat_natCast]
      exact ⟨_, rfl, q⟩

theorem scPoint : FnScope ["p", "n", "x"] ["p", "n", "x"] (defScope sPoint) := ⟨rfl, rfl, rfl, by decide +kernel, rfl, by decide +kernel, by decide +kernel⟩
theorem ok_point {f fC : Addr} {fd fdC : FuncData} {k : Nat} (F : Fun K "is_point" "is_point" sPoint f fd) (FC : Fun K "count_points" "count_points" sCount fC fdC) (bC : Binds K fdC ["p", "n"] []) (gC : mg "count_points" = some (.ref fC)) (T : Txt K mg aP tM tW tN) :
    FnOk P w K mg base CX0 (k + 2) f fd ["p", "n", "x"] spPoint := by
  have GC : FnOk P w K mg base CX0 (k + 1) fC fdC ["p", "n"] spCount := ok_count FC T
  refine F.ok scPoint (fun vs H Q E h => ?_) (fun cdv A outer s H vs Q E hr h => ?_)
  · obtain ⟨p, n, x, rfl, _⟩ := h
    rfl
  · obtain ⟨p, n, x, rfl, hp, hn, q⟩ := h
    refine ⟨_, pss_one (ps_ret (pe_chain op_le op_lt pe_int (pv 2) (pe_call GC hr (by rfl) gC FC.kp bC .nil pass0 (pa_cons (pv 0) (pa_cons (pv 1) pa_nil))))), ?_⟩
    refine ⟨iv x, rfl, 0, x, rfl, rfl, _, rfl, ite2 (fun e1 => ?_) (fun e1 => ?_)⟩
    · refine ⟨iv p, rfl, iv n, rfl, p, n, rfl, hp, hn, x, (p ^ n : Nat), rfl, rfl, ?_⟩
      show Q (.bl (decide ((x : Int) < ((p ^ n : Nat) : Int)))) H
      rw [show decide ((x : Int) < ((p ^ n : Nat) : Int)) = decide (x < p ^ n) from decide_eq_decide.mpr (by omega)]
      exact q
    · exact absurd (decide_eq_true (by omega)) e1

theorem scNums : FnScope ["p", "n", "point", "numbers", "rest", "place"] ["p", "n", "point"] (defScope sNums) := ⟨rfl, rfl, rfl, by decide +kernel, rfl, by decide +kernel, by decide +kernel⟩
theorem ok_nums {f : Addr} {fd : FuncData} {k : Nat} (F : Fun K "numbers_of_point" "numbers_of_point" sNums f fd) (T : Txt K mg aP tM tW tN) : FnOk P w K mg base CX0 (k + 1) f fd ["p", "n", "point"] spNums := by
  refine F.ok scNums (fun vs H Q E h => ?_) (fun cdv A outer s H vs Q E hr h => ?_)
  · obtain ⟨p, n, x, rfl, _⟩ := h
    rfl
  · obtain ⟨p, n, x, rfl, h0, hp, hn, q⟩ := h
    refine ⟨_, pss_cons (ps_set (i := 3) scNums.nd rfl (.inl rfl) (pe_lst pa_nil))
      (pss_cons (ps_set (i := 4) scNums.nd rfl (.inl rfl) (pv 2))
      (pss_cons (ps_for PassesOwn.never rfl (pi_range1 (by rfl) T.range (pa_cons (pv 1) pa_nil)) (pg_name (i := 5) scNums.nd rfl (.inl rfl))
        (pss_cons (ps_expr (pe_bm PySem.F.plainAttrs_list PySem.F.slot_list_append PySem.F.type_list_append mt_append (pv 3) (pa_cons (pe_op op_mod (pv 4) (pv 0)) pa_nil)))
        (pss_one (ps_set (i := 4) scNums.nd rfl (.inl rfl) (pe_op op_fdiv (pv 4) (pv 0))))))
      (pss_one (ps_ret (pv 3))))), ?_⟩
    refine ⟨Nat.zero_le _, fun l nl => ?_⟩
    refine ⟨iv x, rfl, iv n, rfl, (n : Int), rfl, by omega, by omega, for_range (n := (n : Int).toNat) (fun i σ H' => ∃ y, σ = [some (iv p), some (iv n), some (iv x), some (.ref l), some (iv (x / p ^ i)), y] ∧ Same H H' ∧ H' l = some (.lst (ivs (Kzt1.coords p i x))))
      ⟨none, ?_, same_upd nl, upd_same⟩ ?_ ?_⟩
    · rw [Nat.pow_zero, Nat.div_one]
      rfl
    · rintro i σ H' hi ⟨y, rfl, sm, hl⟩
      refine ⟨.ref l, rfl, .inl ⟨rfl, _, SqL.of hl⟩, iv (x / p ^ i), rfl, iv p, rfl, _, _, rfl, rfl, by omega, l, _, _, rfl, rfl, hl, ?_, ?_⟩
      · rw [ivs_length, coords_length]
        exact sz (by omega)
      · refine ⟨iv (x / p ^ i), rfl, iv p, rfl, _, _, rfl, rfl, ⟨by omega, by omega⟩, some (.int (0 + (i : Int))), ?_, same_new sm nl, ?_⟩
        · show [some (iv p), some (iv n), some (iv x), some (.ref l), some (V.int (((x / p ^ i : Nat) : Int) / (p : Int))), _] = _
          rw [show ((x / p ^ i : Nat) : Int) / (p : Int) = ((x / p ^ (i + 1) : Nat) : Int) by rw [Nat.pow_succ, ← Nat.div_div_eq_div_mul]; exact (Int.natCast_ediv _ _).symm]
        · rw [upd_same, coords_succ, ivs_append]
          rfl
    · rintro σ H' ⟨y, rfl, sm, hl⟩
      rw [Int.toNat_natCast] at hl
      exact ⟨_, rfl, q H' l sm nl hl⟩

theorem scDir : FnScope ["p", "n", "v", "number"] ["p", "n", "v"] (defScope sDir) := ⟨rfl, rfl, rfl, by decide +kernel, rfl, by decide +kernel, by decide +kernel⟩
theorem ok_dir {f fC fP fN : Addr} {fd fdC fdP fdN : FuncData} {k : Nat} (F : Fun K "is_direction" "is_direction" sDir f fd)
    (FC : Fun K "count_points" "count_points" sCount fC fdC) (bC : Binds K fdC ["p", "n"] []) (gC : mg "count_points" = some (.ref fC))
    (FP : Fun K "is_point" "is_point" sPoint fP fdP) (bP : Binds K fdP ["p", "n", "x"] []) (gP : mg "is_point" = some (.ref fP))
    (FN : Fun K "numbers_of_point" "numbers_of_point" sNums fN fdN) (bN : Binds K fdN ["p", "n", "point"] []) (gN : mg "numbers_of_point" = some (.ref fN))
    (T : Txt K mg aP tM tW tN) : FnOk P w K mg base CX0 (k + 3) f fd ["p", "n", "v"] spDir := by
  have GP : FnOk P w K mg base CX0 (k + 2) fP fdP ["p", "n", "x"] spPoint := ok_point FP FC bC gC T
  have GN : FnOk P w K mg base CX0 (k + 2) fN fdN ["p", "n", "point"] spNums := ok_nums FN T
  refine F.ok scDir (fun vs H Q E h => ?_) (fun cdv A outer s H vs Q E hr h => ?_)
  · obtain ⟨p, n, v, rfl, _⟩ := h
    rfl
  · obtain ⟨p, n, v, rfl, h0, hp, hn, q⟩ := h
    refine ⟨_, pss_cons (ps_if (pt_not (pt_val (pe_call GP hr (by rfl) gP FP.kp bP .nil pass0 (pa_cons (pv 0) (pa_cons (pv 1) (pa_cons (pv 2) pa_nil)))))) (pss_one (ps_ret pe_bl)) pss_nil)
      (pss_cons (ps_for PassesOwn.never rfl (pi_list (pe_call GN hr (by rfl) gN FN.kp bN .nil pass0 (pa_cons (pv 0) (pa_cons (pv 1) (pa_cons (pv 2) pa_nil))))) (pg_name (i := 3) scDir.nd rfl (.inl rfl))
        (pss_one (ps_if (pt_cmpR op_ne (pv 3) pe_int (nomark _)) (pss_one (ps_ret (pe_cmpR op_eq (pv 3) pe_int (nomark _)))) pss_nil)))
      (pss_one (ps_ret pe_bl))), ?_⟩
    refine ⟨iv p, rfl, iv n, rfl, iv v, rfl, p, n, v, rfl, hp, hn, _, rfl, ?_⟩
    by_cases hv : v < p ^ n
    · rw [decide_eq_true hv]
      refine iteF ?_
      refine ⟨iv p, rfl, iv n, rfl, iv v, rfl, p, n, v, rfl, h0, hp, hn, fun H1 a sm na ha => ?_⟩
      have hd : isDir p n v = ((Kzt1.coords p n v).find? (fun x => x != 0) == some 1) := by
        unfold isDir
        rw [decide_eq_true hv, Bool.true_and]
      refine ⟨a, rfl, ⟨_, SqL.of ha⟩, for_list (K := K) (a := a) (xs := ivs (Kzt1.coords p n v)) (fun i σ H' => ∃ y, σ = [some (iv p), some (iv n), some (iv v), y] ∧ H' = H1 ∧ ((Kzt1.coords p n v).take i).find? (fun x => x != 0) = none)
        ⟨none, rfl, rfl, rfl⟩ ?_ ?_ ?_⟩
      · rintro i σ H' _ ⟨_, _, rfl, _⟩
        exact SqL.of ha
      · rintro i x σ H' hi ⟨y, rfl, rfl, hf⟩
        obtain ⟨c, hc, rfl⟩ := ivs_at hi
        refine ⟨iv c, rfl, rfl, _, rfl, ?_⟩
        by_cases c0 : c = 0
        · subst c0
          refine iteF ?_
          exact ⟨some (iv 0), rfl, rfl, find_none_take hf hc rfl⟩
        · have hne : decide (iv c = iv 0) = false := by
            rw [decide_iv]
            exact decide_eq_false c0
          show if (!decide (iv c = iv 0)) = true then _ else _
          rw [hne]
          refine iteT ?_
          refine ⟨iv c, rfl, rfl, ?_⟩
          have e := find_some_take hf hc c0
          have e2 : isDir p n v = decide (iv c = iv 1) := by
            rw [hd, e, decide_iv]
            rw [Bool.eq_iff_iff]
            simp
          show Q (.bl (decide (iv c = iv 1))) _
          rw [← e2]
          exact q _ sm
      · rintro σ H' ⟨y, rfl, rfl, hf⟩
        rw [ivs_length, List.take_length] at hf
        have e2 : isDir p n v = false := by
          rw [hd, hf]
          rfl
        show Q (.bl false) _
        rw [← e2]
        exact q _ sm
    · rw [decide_eq_false hv]
      refine iteT ?_
      have e2 : isDir p n v = false := by
        unfold isDir
        rw [decide_eq_false hv, Bool.false_and]
      show Q (.bl false) _
      rw [← e2]
      exact q _ (Same.refl _)
end
end KM
namespace KM
open PySem PySem.Spec PyProof.Rows L2
def spUp : Sp := fun vs H Q _ => ∃ (p : Nat) (a : Addr) (l : List Nat), vs = [iv p, .ref a] ∧ H a = some (.lst (ivs l)) ∧ p ≤ 7 ∧ Q (iv (hor p l)) H
def spPol : Sp := fun vs H Q _ => ∃ p n x v : Nat, vs = [iv p, iv n, iv x, iv v] ∧ 0 < p ∧ p ≤ 7 ∧ n ≤ 3 ∧ ∀ (H' : Hp) (a : Addr), Same H H' → H a = none → H' a = some (.lst (ivs (Kzt2.lineAt p n x v))) → Q (.ref a) H'
section
variable {P : Program} {w : World} {K : PySem.W.Frag} {mg : Str → Option Value} {base : Heap} {aP : Addr} {tM tW tN : Nat}
theorem scUp : FnScope ["p", "numbers", "point", "number"] ["p", "numbers"] (defScope sUp) := ⟨rfl, rfl, rfl, by decide +kernel, rfl, by decide +kernel, by decide +kernel⟩
theorem ok_up {f : Addr} {fd : FuncData} {k : Nat} (F : Fun K "point_of_numbers" "point_of_numbers" sUp f fd) (mr : mg "reversed" = none) : FnOk P w K mg base CX0 (k + 1) f fd ["p", "numbers"] spUp := by
  refine F.ok scUp (fun vs H Q E h => ?_) (fun cdv A outer s H vs Q E hr h => ?_)
  · obtain ⟨p, a, l, rfl, _⟩ := h
    rfl
  · obtain ⟨p, a, l, rfl, ha, hp, q⟩ := h
    refine ⟨_, pss_cons (ps_set (i := 2) scUp.nd rfl (.inl rfl) pe_int)
      (pss_cons (ps_for PassesOwn.never rfl (pi_reversed (by rfl) mr (pa_cons (pv 1) pa_nil)) (pg_name (i := 3) scUp.nd rfl (.inl rfl))
        (pss_one (ps_set (i := 2) scUp.nd rfl (.inl rfl) (pe_op op_add (pe_op op_mul (pv 2) (pv 0)) (pv 3)))))
      (pss_one (ps_ret (pv 2)))), ?_⟩
    refine ⟨.ref a, rfl, a, ivs l, rfl, SqL.of ha, for_it (walk_rev (K := K) (a := a) (xs := ivs l)) (fun i σ H' => ∃ y, σ = [some (iv p), some (.ref a), some (iv (hor p (l.drop (l.length - i)))), y] ∧ H' = H) ⟨none, ?_, rfl⟩ ?_ ?_ ?_⟩
    · rw [Nat.sub_zero, List.drop_length]
      rfl
    · rintro i σ H' _ ⟨_, _, rfl⟩
      exact SqL.of ha
    · rintro i x σ H' H2 hi ⟨y, rfl, rfl⟩ ⟨rfl, hx⟩
      rw [ivs_length] at hi hx
      obtain ⟨c, hc, rfl⟩ := ivs_at hx
      refine ⟨iv _, rfl, iv p, rfl, _, _, rfl, rfl, .inr ⟨by omega, by omega⟩, iv c, rfl, _, _, rfl, rfl, some (iv c), ?_, rfl⟩
      show [some (iv p), some (.ref a), some (V.int (((hor p (l.drop (l.length - i)) : Nat) : Int) * (p : Int) + (c : Int))), _] = _
      rw [hor_drop p l i c hc hi]
      rw [show (((hor p (l.drop (l.length - i)) : Nat) : Int) * (p : Int) + (c : Int)) = ((hor p (l.drop (l.length - i)) * p + c : Nat) : Int) by rw [Int.natCast_add, Int.natCast_mul]]
    · rintro σ H' ⟨y, rfl, rfl⟩
      rw [ivs_length, Nat.sub_self]
      exact ⟨_, rfl, q⟩

theorem scPol : FnScope ["p", "n", "x", "v", "start", "way", "points", "times", "numbers", "place"] ["p", "n", "x", "v"] (defScope sPol) := ⟨rfl, rfl, rfl, by decide +kernel, rfl, by decide +kernel, by decide +kernel⟩
theorem ok_pol {f fN fU : Addr} {fd fdN fdU : FuncData} {k : Nat} (F : Fun K "points_of_line" "points_of_line" sPol f fd)
    (FN : Fun K "numbers_of_point" "numbers_of_point" sNums fN fdN) (bN : Binds K fdN ["p", "n", "point"] []) (gN : mg "numbers_of_point" = some (.ref fN))
    (FU : Fun K "point_of_numbers" "point_of_numbers" sUp fU fdU) (bU : Binds K fdU ["p", "numbers"] []) (gU : mg "point_of_numbers" = some (.ref fU))
    (mr : mg "reversed" = none) (T : Txt K mg aP tM tW tN) : FnOk P w K mg base CX0 (k + 2) f fd ["p", "n", "x", "v"] spPol := by
  have GN : FnOk P w K mg base CX0 (k + 1) fN fdN ["p", "n", "point"] spNums := ok_nums FN T
  have GU : FnOk P w K mg base CX0 (k + 1) fU fdU ["p", "numbers"] spUp := ok_up FU mr
  refine F.ok scPol (fun vs H Q E h => ?_) (fun cdv A outer s H vs Q E hr h => ?_)
  · obtain ⟨p, n, x, v, rfl, _⟩ := h
    rfl
  · obtain ⟨p, n, x, v, rfl, h0, hp, hn, q⟩ := h
    refine ⟨_, pss_cons (ps_set (i := 4) scPol.nd rfl (.inr rfl) (pe_call GN hr (by rfl) gN FN.kp bN .nil pass0 (pa_cons (pv 0) (pa_cons (pv 1) (pa_cons (pv 2) pa_nil)))))
      (pss_cons (ps_set (i := 5) scPol.nd rfl (.inr rfl) (pe_call GN hr (by rfl) gN FN.kp bN .nil pass0 (pa_cons (pv 0) (pa_cons (pv 1) (pa_cons (pv 3) pa_nil)))))
      (pss_cons (ps_set (i := 6) scPol.nd rfl (.inl rfl) (pe_lst pa_nil))
      (pss_cons (ps_for PassesOwn.never rfl (pi_range1 (by rfl) T.range (pa_cons (pv 0) pa_nil)) (pg_name (i := 7) scPol.nd rfl (.inr rfl))
        (pss_cons (ps_setLc (i := 8) (own := [("place", 9)]) (g := gName 9) (tt := tYes) (by rfl) scPol.nd rfl rfl (sw_true rfl rfl rfl (by decide +kernel)) (pi_range1 (by rfl) T.range (pa_cons (pv 1) pa_nil))
            (blkOk_by (own := [("place", 9)]) (N := ["p", "n", "x", "v", "start", "way", "points", "times", "numbers", "place"]) (sc := defScope sPol) (by decide +kernel))
            (fun _ _ _ _ _ => pg_name (i := 9) scPol.nd rfl (.inl rfl)) (fun _ _ _ _ _ => pts_nil)
            (fun _ _ _ _ _ => pe_op op_mod (pe_op op_add (pe_ix (r := rIxL K) ix_list (pv 4) (pv 9) (fun _ _ => rfl)) (pe_op op_mul (pv 7) (pe_ix (r := rIxL K) ix_list (pv 5) (pv 9) (fun _ _ => rfl)))) (pv 0)))
        (pss_one (ps_expr (pe_bm PySem.F.plainAttrs_list PySem.F.slot_list_append PySem.F.type_list_append mt_append (pv 6) (pa_cons (pe_call GU hr (by rfl) gU FU.kp bU .nil pass0 (pa_cons (pv 0) (pa_cons (pv 8) pa_nil))) pa_nil))))))
      (pss_one (ps_ret (pv 6)))))), ?_⟩
    refine ⟨iv p, rfl, iv n, rfl, iv x, rfl, p, n, x, rfl, h0, hp, hn, fun H1 a1 sm1 na1 ha1 => ?_⟩
    refine ⟨iv p, rfl, iv n, rfl, iv v, rfl, p, n, v, rfl, h0, hp, hn, fun H2 a2 sm2 na2 ha2 => ?_⟩
    refine ⟨Nat.zero_le _, fun l nl => ?_⟩
    have sm12 : Same H H2 := sm1.trans sm2
    have nl0 : H l = none := sm12.free nl
    refine ⟨iv p, rfl, (p : Int), rfl, by omega, by omega, for_range (n := (p : Int).toNat) (fun i σ H' => ∃ y7 y8 y9, σ = [some (iv p), some (iv n), some (iv x), some (iv v), some (.ref a1), some (.ref a2), some (.ref l), y7, y8, y9] ∧ Same H2 H' ∧ H' l = some (.lst (ivs ((List.range i).map fun t => hor p (lineNums p n x v t)))))
      ⟨none, none, none, rfl, same_upd nl, upd_same⟩ ?_ ?_⟩
    · rintro i σ H' hi ⟨y7, y8, y9, rfl, sm, hl⟩
      refine ⟨iv n, rfl, (n : Int), rfl, by omega, by omega, fun D nD => lc_range (lo := 0) (n := (n : Int).toNat) (fun j H3 => Same H' H3 ∧ H3 D = some (.lst (ivs (lineNums p j x v i)))) ⟨same_upd nD, upd_same⟩ ?_ ?_⟩
      · rintro j H3 hj ⟨sm3, hD⟩
        rw [Int.toNat_natCast] at hj
        have s23 : Same H2 H3 := sm.trans sm3
        have e1 : atI (ivs (Kzt1.coords p n x)) (0 + (j : Int)) = some (iv (x / p ^ j % p)) := at_of (j := j) (by omega) (ivs_get (coords_get p n x j hj))
        have e2 : atI (ivs (Kzt1.coords p n v)) (0 + (j : Int)) = some (iv (v / p ^ j % p)) := at_of (j := j) (by omega) (ivs_get (coords_get p n v j hj))
        refine ⟨rfl, ?_⟩
        unfold tYes
        refine iteT ?_
        refine ⟨.ref a1, rfl, .int (0 + (j : Int)), rfl, a1, _, _, _, rfl, rfl, SqL.of (s23 _ _ (sm2 _ _ ha1)), e1, .int (0 + (i : Int)), rfl, .ref a2, rfl, .int (0 + (j : Int)), rfl, a2, _, _, _, rfl, rfl, SqL.of (s23 _ _ ha2), e2, _, _, rfl, rfl, ?_, _, _, rfl, rfl, iv p, rfl, _, _, rfl, rfl, by omega, _, hD, ?_, ?_, ?_⟩
        · exact .inl ⟨by omega, by omega⟩
        · rw [ivs_length]
          simp only [lineNums, List.length_map, List.length_range]
          exact sz (by omega)
        · exact same_new sm3 nD
        · rw [upd_same]
          unfold lineNums
          rw [List.range_succ, List.map_append, ivs_append]
          have e : (((x / p ^ j % p : Nat) : Int) + (0 + (i : Int)) * ((v / p ^ j % p : Nat) : Int)) % (p : Int) = (((x / p ^ j % p + i * (v / p ^ j % p)) % p : Nat) : Int) := by
            rw [Int.zero_add, Int.natCast_emod (x / p ^ j % p + i * (v / p ^ j % p)) p, Int.natCast_add, Int.natCast_mul]
          show some (HO.lst (_ ++ [V.int ((((x / p ^ j % p : Nat) : Int) + (0 + (i : Int)) * ((v / p ^ j % p : Nat) : Int)) % (p : Int))])) = _
          rw [e]
          rfl
      · rintro H3 ⟨sm3, hD⟩
        rw [Int.toNat_natCast] at hD
        have hl3 := sm3 _ _ hl
        refine ⟨.ref l, rfl, .inl ⟨rfl, _, SqL.of hl3⟩, iv p, rfl, .ref D, rfl, p, D, _, rfl, hD, hp, l, _, _, rfl, rfl, hl3, ?_, ?_⟩
        · rw [ivs_length, List.length_map, List.length_range]
          exact sz (by omega)
        · refine ⟨_, _, _, rfl, same_new (sm.trans sm3) nl, ?_⟩
          rw [upd_same, List.range_succ, List.map_append, ivs_append]
          rfl
    · rintro σ H' ⟨y7, y8, y9, rfl, sm, hl⟩
      rw [Int.toNat_natCast, ← lineAt_eq p n x v h0] at hl
      exact ⟨_, rfl, q H' l (sm12.trans sm) nl0 hl⟩
end
end KM
namespace KM
open PySem PySem.Spec PyProof.Rows L2
/-- what members_of_set makes -/
def mems (s : List Nat) : List (Key × V) := s.map fun (y : Nat) => ((Sum.inl (y : Int) : Key), V.bl true)
theorem mems_length (s : List Nat) : (mems s).length = s.length := List.length_map ..
theorem mems_get {s : List Nat} {i : Nat} {k : Key} {v : V} (h : (mems s)[i]? = some (k, v)) : ∃ c, s[i]? = some c ∧ k = Sum.inl (c : Int) := by
  unfold mems at h
  rw [List.getElem?_map] at h
  cases e : s[i]? with
  | none =>
    rw [e] at h
    cases h
  | some c =>
    rw [e] at h
    have := Option.some.inj h
    exact ⟨c, rfl, (congrArg Prod.fst this).symm⟩
theorem mems_val (y : Nat) : ∀ s : List Nat, valV (mems s) (Sum.inl (y : Int)) = if s.contains y = true then some (V.bl true) else none
  | [] => rfl
  | c :: s => by
    have ih := mems_val y s
    by_cases h : c = y
    · subst h
      rw [if_pos (by simp)]
      exact valV_pos (p := ((Sum.inl (c : Int) : Key), V.bl true)) rfl
    · have h1 : ¬ ((Sum.inl (c : Int) : Key)) = Sum.inl (y : Int) := fun e => h (by have := Sum.inl.inj e; omega)
      have e := valV_neg (p := ((Sum.inl (c : Int) : Key), V.bl true)) (r := mems s) h1
      show valV (((Sum.inl (c : Int) : Key), V.bl true) :: mems s) _ = _
      rw [e, ih]
      have hyc : ¬ y = c := fun e => h e.symm
      simp [hyc]
theorem mems_in (y : Nat) (s : List Nat) : (valV (mems s) (Sum.inl (y : Int))).isSome = s.contains y := by
  rw [mems_val]
  cases s.contains y <;> rfl
theorem mems_snoc {s : List Nat} {i c : Nat} (nd : s.Nodup) (h : s[i]? = some c) : putK (mems (s.take i)) (Sum.inl (c : Int)) (V.bl true) = mems (s.take (i + 1)) := by
  have hnot : c ∉ s.take i := by
    intro hc
    obtain ⟨j, hj, e⟩ := List.mem_take_iff_getElem.mp hc
    obtain ⟨hi, e2⟩ := List.getElem?_eq_some_iff.mp h
    exact (List.pairwise_iff_getElem.mp nd) j i (by omega) hi (by omega) (e.trans e2.symm)
  rw [putK_new _ (by rw [mems_val, if_neg (by simpa using hnot)])]
  unfold mems
  rw [List.take_add_one, h, List.map_append]
  rfl

def spSet (K : PySem.W.Frag) : Sp := fun vs H Q _ => ∃ (p n : Nat) (a : Addr) (s : List Nat), vs = [iv p, iv n, .ref a] ∧ SqL K H a (ivs s) ∧ p ≤ 7 ∧ n ≤ 3 ∧ Q (.bl (Kzt1.okSet p n s)) H
def spMem (K : PySem.W.Frag) : Sp := fun vs H Q _ => ∃ (a : Addr) (s : List Nat), vs = [.ref a] ∧ SqL K H a (ivs s) ∧ s.Nodup ∧ s.length ≤ 400 ∧ ∀ (H' : Hp) (d : Addr), Same H H' → H d = none → H' d = some (.dK (mems s)) → Q (.ref d) H'
def spHl : Sp := fun vs H Q _ => ∃ (p n v : Nat) (d : Addr) (s : List Nat), vs = [iv p, iv n, iv v, .ref d] ∧ H d = some (.dK (mems s)) ∧ 0 < p ∧ p ≤ 7 ∧ n ≤ 3 ∧ s.length ≤ 400 ∧ ∀ H' : Hp, Same H H' → Q (.bl (s.any (onLine p n s v))) H'
section
variable {P : Program} {w : World} {K : PySem.W.Frag} {mg : Str → Option Value} {base : Heap} {aP : Addr} {tM tW tN : Nat}
theorem scSet : FnScope ["p", "n", "s", "count", "last", "point"] ["p", "n", "s"] (defScope sSet) := ⟨rfl, rfl, rfl, by decide +kernel, rfl, by decide +kernel, by decide +kernel⟩
theorem ok_set {f fC : Addr} {fd fdC : FuncData} {k : Nat} (F : Fun K "is_set" "is_set" sSet f fd)
    (FC : Fun K "count_points" "count_points" sCount fC fdC) (bC : Binds K fdC ["p", "n"] []) (gC : mg "count_points" = some (.ref fC))
    (T : Txt K mg aP tM tW tN) : FnOk P w K mg base CX0 (k + 2) f fd ["p", "n", "s"] (spSet K) := by
  have GC : FnOk P w K mg base CX0 (k + 1) fC fdC ["p", "n"] spCount := ok_count FC T
  refine F.ok scSet (fun vs H Q E h => ?_) (fun cdv A outer s H vs Q E hr h => ?_)
  · obtain ⟨p, n, a, s, rfl, _⟩ := h
    rfl
  · obtain ⟨p, n, a, s, rfl, hs, hp, hn, q⟩ := h
    refine ⟨_, pss_cons (ps_set (i := 3) scSet.nd rfl (.inl rfl) (pe_call GC hr (by rfl) gC FC.kp bC .nil pass0 (pa_cons (pv 0) (pa_cons (pv 1) pa_nil))))
      (pss_cons (ps_set (i := 4) scSet.nd rfl (.inl rfl) (pe_un un_neg pe_int))
      (pss_cons (ps_for PassesOwn.never rfl (pi_list (pv 2)) (pg_name (i := 5) scSet.nd rfl (.inl rfl))
        (pss_cons (ps_if (pt_not (pt_chain op_lt op_lt (pv 4) (pv 5) (pv 3))) (pss_one (ps_ret pe_bl)) pss_nil)
        (pss_one (ps_set (i := 4) scSet.nd rfl (.inl rfl) (pv 5)))))
      (pss_one (ps_ret pe_bl)))), ?_⟩
    refine ⟨iv p, rfl, iv n, rfl, p, n, rfl, hp, hn, 1, rfl, .ref a, rfl, a, rfl, ⟨_, hs⟩, for_list (K := K) (a := a) (xs := ivs s) (fun i σ H' => ∃ (m : Int) (y : Option V), σ = [some (iv p), some (iv n), some (.ref a), some (iv (p ^ n)), some (.int m), y] ∧ H' = H ∧ okFrom (p ^ n) m (s.drop i) = Kzt1.okSet p n s)
      ⟨-1, none, rfl, rfl, okFrom_set p n s⟩ ?_ ?_ ?_⟩
    · rintro i σ H' _ ⟨_, _, _, rfl, _⟩
      exact hs
    · rintro i x σ H' hi ⟨m, y, rfl, rfl, ho⟩
      obtain ⟨c, hc, rfl⟩ := ivs_at hi
      obtain ⟨hlt, ec⟩ := List.getElem?_eq_some_iff.mp hc
      rw [List.drop_eq_getElem_cons hlt, ec] at ho
      have ho' : (decide (m < (c : Int)) && decide ((c : Int) < ((p ^ n : Nat) : Int)) && okFrom (p ^ n) (c : Int) (s.drop (i + 1))) = Kzt1.okSet p n s := ho
      have bad : Kzt1.okSet p n s = false → Q (.bl false) H' := fun e => by
        rw [e] at q
        exact q
      refine ⟨.int m, rfl, iv c, rfl, m, c, rfl, rfl, _, rfl, ?_⟩
      by_cases h1 : m < (c : Int)
      · rw [decide_eq_true h1] at ho' ⊢
        refine iteT ?_
        refine ⟨iv (p ^ n), rfl, c, (p ^ n : Nat), rfl, rfl, _, rfl, ?_⟩
        by_cases h2 : (c : Int) < ((p ^ n : Nat) : Int)
        · rw [decide_eq_true h2] at ho' ⊢
          refine iteF ?_
          exact ⟨iv c, rfl, (c : Int), some (iv c), rfl, rfl, by simpa using ho'⟩
        · rw [decide_eq_false h2] at ho' ⊢
          refine iteT ?_
          exact bad (by rw [← ho']; rfl)
      · rw [decide_eq_false h1] at ho' ⊢
        refine iteF ?_
        refine ⟨_, rfl, ?_⟩
        refine iteT ?_
        exact bad (by rw [← ho']; rfl)
    · rintro σ H' ⟨m, y, rfl, rfl, ho⟩
      rw [ivs_length, List.drop_length] at ho
      have e : Kzt1.okSet p n s = true := ho.symm
      rw [e] at q
      exact q

theorem scMem : FnScope ["s", "members", "point"] ["s"] (defScope sMem) := ⟨rfl, rfl, rfl, by decide +kernel, rfl, by decide +kernel, by decide +kernel⟩
theorem ok_mem {f : Addr} {fd : FuncData} {k : Nat} (F : Fun K "members_of_set" "members_of_set" sMem f fd) : FnOk P w K mg base CX0 (k + 1) f fd ["s"] (spMem K) := by
  refine F.ok scMem (fun vs H Q E h => ?_) (fun cdv A outer s H vs Q E hr h => ?_)
  · obtain ⟨a, s, rfl, _⟩ := h
    rfl
  · obtain ⟨a, s, rfl, hs, nd, hlen, q⟩ := h
    refine ⟨_, pss_cons (ps_set (i := 1) scMem.nd rfl (.inl rfl) pe_dnewK)
      (pss_cons (ps_for PassesOwn.never rfl (pi_list (pv 0)) (pg_name (i := 2) scMem.nd rfl (.inl rfl))
        (pss_one (ps_dput (hu_of hr) (pv 1) (pv 2) pe_bl rfl)))
      (pss_one (ps_ret (pv 1)))), ?_⟩
    refine fun d nd0 => ?_
    have hs0 : SqL K (upd H d (.dK [])) a (ivs s) := (same_upd nd0).seq hs
    refine ⟨.ref a, rfl, a, rfl, ⟨_, hs0⟩, for_list (K := K) (a := a) (xs := ivs s) (fun i σ H' => ∃ y : Option V, σ = [some (.ref a), some (.ref d), y] ∧ Same H H' ∧ H' d = some (.dK (mems (s.take i))))
      ⟨none, rfl, same_upd nd0, upd_same⟩ ?_ ?_ ?_⟩
    · rintro i σ H' _ ⟨_, _, sm, _⟩
      exact sm.seq hs
    · rintro i x σ H' hi ⟨y, rfl, sm, hd⟩
      obtain ⟨c, hc, rfl⟩ := ivs_at hi
      refine ⟨.ref d, rfl, iv c, rfl, d, _, rfl, DPut.k (k := Sum.inl (c : Int)) hd ?_, some (iv c), rfl, same_new sm nd0, ?_⟩
      · rw [mems_length, List.length_take]
        exact sz (by omega)
      · rw [upd_same, mems_snoc nd hc]
    · rintro σ H' ⟨y, rfl, sm, hd⟩
      rw [ivs_length, List.take_length] at hd
      exact ⟨_, rfl, q H' d sm nd0 hd⟩

theorem scHl : FnScope ["p", "n", "v", "members", "x", "point"] ["p", "n", "v", "members"] (defScope sHl) := ⟨rfl, rfl, rfl, by decide +kernel, rfl, by decide +kernel, by decide +kernel⟩
/-- the dict is unlocked again -/
theorem same_back {H H' : Hp} {d : Addr} {od : Obj} {u : HO} (h : H d = some u) (s : Same (upd H d (.frz od u)) H') : Same H (upd H' d u) := fun b x e => by
  by_cases c : b = d
  · subst c
    rw [upd_same]
    rw [h] at e
    exact e
  · rw [upd_ne c]
    refine s b x ?_
    rw [upd_ne c]
    exact e
theorem ok_hl {f fN fU fL : Addr} {fd fdN fdU fdL : FuncData} {k : Nat} (F : Fun K "has_line" "has_line" sHl f fd)
    (FN : Fun K "numbers_of_point" "numbers_of_point" sNums fN fdN) (bN : Binds K fdN ["p", "n", "point"] []) (gN : mg "numbers_of_point" = some (.ref fN))
    (FU : Fun K "point_of_numbers" "point_of_numbers" sUp fU fdU) (bU : Binds K fdU ["p", "numbers"] []) (gU : mg "point_of_numbers" = some (.ref fU))
    (FL : Fun K "points_of_line" "points_of_line" sPol fL fdL) (bL : Binds K fdL ["p", "n", "x", "v"] []) (gL : mg "points_of_line" = some (.ref fL))
    (mr : mg "reversed" = none) (ma : mg "all" = none) (T : Txt K mg aP tM tW tN) : FnOk P w K mg base CX0 (k + 3) f fd ["p", "n", "v", "members"] spHl := by
  have GL : FnOk P w K mg base CX0 (k + 2) fL fdL ["p", "n", "x", "v"] spPol := ok_pol FL FN bN gN FU bU gU mr T
  refine F.ok scHl (fun vs H Q E h => ?_) (fun cdv A outer s H vs Q E hr h => ?_)
  · obtain ⟨p, n, v, d, s, rfl, _⟩ := h
    rfl
  · obtain ⟨p, n, v, d, s, rfl, hd, h0, hp, hn, hlen, q⟩ := h
    refine ⟨_, pss_cons (ps_lock (ps_for PassesOwn.never rfl (pi_keys (pv 3)) (pg_name (i := 4) scHl.nd rfl (.inl rfl))
        (pss_one (ps_if (pt_val (pe_callB (cr_all rfl) (by rfl) ma (by decide +kernel) (pa_cons
          (pe_lc (own := [("point", 5)]) (g := gName 5) (tt := tYes) (te := tDIn (tVar 5) (tVar 3)) (by rfl) scHl.nd
            (pi_list (pe_call GL hr (by rfl) gL FL.kp bL .nil pass0 (pa_cons (pv 0) (pa_cons (pv 1) (pa_cons (pv 4) (pa_cons (pv 2) pa_nil))))))
            (blkOk_by (own := [("point", 5)]) (N := ["p", "n", "v", "members", "x", "point"]) (sc := defScope sHl) (by decide +kernel))
            (fun _ _ _ _ _ => pg_name (i := 5) scHl.nd rfl (.inl rfl)) (fun _ _ _ _ _ => pts_nil)
            (fun _ _ _ _ _ => pe_cmp (pc_din (hu_of hr) (pv 5) (pv 3)) rfl)) pa_nil)))
          (pss_one (ps_ret pe_bl)) pss_nil))))
      (pss_one (ps_ret pe_bl)), ?_⟩
    refine ⟨d, _, hd, trivial, fun od => ?_⟩
    refine ⟨.ref d, rfl, d, od, rfl, .inl ⟨_, upd_same, for_it (walk_keys (d := d) (o := od) (kvs := mems s)) (fun i σ H' => ∃ y : Option V, σ = [some (iv p), some (iv n), some (iv v), some (.ref d), y, none] ∧ Same (upd H d (.frz od (.dK (mems s)))) H' ∧ (s.take i).any (onLine p n s v) = false)
      ⟨none, rfl, Same.refl _, rfl⟩ ?_ ?_ ?_⟩⟩
    · rintro i σ H' _ ⟨_, _, sm, _⟩
      exact sm _ _ upd_same
    · rintro i x σ H' H2 hi ⟨y, rfl, sm, hf⟩ ⟨rfl, kk, vv, hkv, rfl⟩
      obtain ⟨c, hc, rfl⟩ := mems_get hkv
      have hdf : H2 d = some (.frz od (.dK (mems s))) := sm _ _ upd_same
      refine ⟨iv p, rfl, iv n, rfl, iv c, rfl, iv v, rfl, p, n, c, v, rfl, h0, hp, hn, fun H3 a3 sm3 na3 ha3 => ?_⟩
      refine ⟨a3, rfl, ⟨_, SqL.of ha3⟩, fun D nD => ?_⟩
      refine lc_list (K := K) (a := a3) (xs := ivs (Kzt2.lineAt p n c v)) (fun j H4 => Same H3 H4 ∧ H4 D = some (.lst (((Kzt2.lineAt p n c v).take j).map fun y => V.bl (s.contains y)))) ⟨same_upd nD, upd_same⟩ ?_ ?_ ?_
      · rintro j H4 _ ⟨sm4, _⟩
        exact sm4.seq (SqL.of ha3)
      · rintro j x H4 hj ⟨sm4, hD⟩
        obtain ⟨e, he, rfl⟩ := ivs_at hj
        refine ⟨rfl, ?_⟩
        unfold tYes
        refine iteT ?_
        have hd4 : H4 d = some (.frz od (.dK (mems s))) := sm4 _ _ (sm3 _ _ hdf)
        refine ⟨iv e, rfl, .ref d, rfl, d, _, rfl, .inl ⟨mems s, Sum.inl (e : Int), .inr ⟨od, hd4⟩, rfl, rfl⟩, _, hD, ?_, same_new sm4 nD, ?_⟩
        · rw [List.length_map, List.length_take]
          have : (Kzt2.lineAt p n c v).length = p := by
            unfold Kzt2.lineAt
            rw [List.length_map, List.length_range]
          exact sz (by omega)
        · rw [upd_same, List.take_add_one, he, List.map_append, mems_in]
          rfl
      · rintro H4 ⟨sm4, hD⟩
        rw [ivs_length, List.take_length] at hD
        have hol : ((Kzt2.lineAt p n c v).map fun y => s.contains y).all id = onLine p n s v c := by
          unfold onLine
          rw [List.all_map]
          rfl
        refine ⟨D, (Kzt2.lineAt p n c v).map fun y => s.contains y, rfl, SqL.of ?_, _, rfl, ?_⟩
        · rw [hD, List.map_map]
          rfl
        · rw [hol]
          have s04 : Same (upd H d (.frz od (.dK (mems s)))) H4 := sm.trans (sm3.trans sm4)
          cases ho : onLine p n s v c with
          | true =>
            refine iteT ?_
            refine ⟨s04 _ _ upd_same, ?_⟩
            have e : s.any (onLine p n s v) = true := List.any_eq_true.mpr ⟨c, List.mem_of_getElem? hc, ho⟩
            have q' := q _ (same_back hd s04)
            rw [e] at q'
            exact q'
          | false =>
            refine iteF ?_
            refine ⟨some (iv c), rfl, s04, ?_⟩
            rw [any_take_succ _ _ _ _ hc, hf, ho]
            rfl
    · rintro σ H' ⟨y, rfl, sm, hf⟩
      rw [mems_length, List.take_length] at hf
      refine ⟨sm _ _ upd_same, ?_⟩
      have q' := q _ (same_back hd sm)
      rw [hf] at q'
      exact q'
end
end KM
namespace KM
open PySem PySem.Spec PyProof.Rows L2
def spHas (K : PySem.W.Frag) : Sp := fun vs H Q _ => ∃ (p n v : Int) (a : Addr) (s : List Int), vs = [.int p, .int n, .int v, .ref a] ∧ 0 ≤ p ∧ 0 ≤ n ∧ 0 ≤ v ∧ SqL K H a (s.map V.int) ∧ s.length ≤ 400 ∧ (∀ z ∈ s, 0 ≤ z) ∧ ∀ (H' : Hp) (r : Addr), H' r = some (.lst ((PyKzt2.has p n v s).map V.int)) → Q (.ref r) H'
theorem ivs_ints (s : List Nat) : (s.map (fun (y : Nat) => (y : Int))).map V.int = ivs s := by
  rw [List.map_map]
  rfl
theorem has_at (p n v : Nat) (s : List Nat) : PyKzt2.has p n v (s.map fun (y : Nat) => (y : Int)) = (Kzt2.answer (.has p n v s)).value :: (Kzt2.answer (.has p n v s)).nums := by
  show ((Kzt2.answer (.has p n v ((s.map fun (y : Nat) => (y : Int)).map Int.toNat))).value :: (Kzt2.answer (.has p n v ((s.map fun (y : Nat) => (y : Int)).map Int.toNat))).nums) = _
  rw [natsOf_map]
theorem has_no (p n v : Nat) (s : List Nat) (h : Kzt1.okField p n = false ∨ Kzt1.okSet p n s = false) : PyKzt2.has p n v (s.map fun (y : Nat) => (y : Int)) = [-22] := by
  rw [has_at]
  unfold Kzt2.answer Kzt2.withSet
  dsimp only
  rw [if_pos h]
  rfl
theorem has_out (p n v : Nat) (s : List Nat) (h1 : Kzt1.okField p n = true) (h2 : Kzt1.okSet p n s = true) (h3 : isDir p n v = false) : PyKzt2.has p n v (s.map fun (y : Nat) => (y : Int)) = [-2] := by
  rw [has_at]
  unfold Kzt2.answer Kzt2.withSet
  dsimp only
  rw [if_neg (fun z => z.elim (fun a => by rw [h1] at a; cases a) (fun b => by rw [h2] at b; cases b)), directions_contains, if_pos h3]
  rfl
theorem has_in (p n v : Nat) (s : List Nat) (h1 : Kzt1.okField p n = true) (h2 : Kzt1.okSet p n s = true) (h3 : isDir p n v = true) : PyKzt2.has p n v (s.map fun (y : Nat) => (y : Int)) = [if s.any (onLine p n s v) = true then 1 else 0] := by
  have h0 : 0 < p := by
    have := (ok_cases h1).1
    omega
  rw [has_at]
  unfold Kzt2.answer Kzt2.withSet
  dsimp only
  rw [if_neg (fun z => z.elim (fun a => by rw [h1] at a; cases a) (fun b => by rw [h2] at b; cases b)), directions_contains, if_neg (by rw [h3]; exact Bool.noConfusion), has_set h0 (okSet_lt h2)]
  rfl
section
variable {P : Program} {w : World} {K : PySem.W.Frag} {mg : Str → Option Value} {base : Heap} {aP : Addr} {tM tW tN : Nat}
theorem scHas : FnScope ["p", "n", "v", "s"] ["p", "n", "v", "s"] (defScope sTop) := ⟨rfl, rfl, rfl, by decide +kernel, rfl, by decide +kernel, by decide +kernel⟩
theorem ok_top {f fS fC fP fN fU fI fM fD fL fH : Addr} {fd fdS fdC fdP fdN fdU fdI fdM fdD fdL fdH : FuncData} (F : Fun K "has" "has" sTop f fd)
    (FS : Fun K "is_space" "is_space" sSpace fS fdS) (bS : Binds K fdS ["p", "n"] []) (gS : mg "is_space" = some (.ref fS))
    (FC : Fun K "count_points" "count_points" sCount fC fdC) (bC : Binds K fdC ["p", "n"] []) (gC : mg "count_points" = some (.ref fC))
    (FP : Fun K "is_point" "is_point" sPoint fP fdP) (bP : Binds K fdP ["p", "n", "x"] []) (gP : mg "is_point" = some (.ref fP))
    (FN : Fun K "numbers_of_point" "numbers_of_point" sNums fN fdN) (bN : Binds K fdN ["p", "n", "point"] []) (gN : mg "numbers_of_point" = some (.ref fN))
    (FU : Fun K "point_of_numbers" "point_of_numbers" sUp fU fdU) (bU : Binds K fdU ["p", "numbers"] []) (gU : mg "point_of_numbers" = some (.ref fU))
    (FI : Fun K "is_set" "is_set" sSet fI fdI) (bI : Binds K fdI ["p", "n", "s"] []) (gI : mg "is_set" = some (.ref fI))
    (FM : Fun K "members_of_set" "members_of_set" sMem fM fdM) (bM : Binds K fdM ["s"] []) (gM : mg "members_of_set" = some (.ref fM))
    (FD : Fun K "is_direction" "is_direction" sDir fD fdD) (bD : Binds K fdD ["p", "n", "v"] []) (gD : mg "is_direction" = some (.ref fD))
    (FL : Fun K "points_of_line" "points_of_line" sPol fL fdL) (bL : Binds K fdL ["p", "n", "x", "v"] []) (gL : mg "points_of_line" = some (.ref fL))
    (FH : Fun K "has_line" "has_line" sHl fH fdH) (bH : Binds K fdH ["p", "n", "v", "members"] []) (gH : mg "has_line" = some (.ref fH))
    (gNT : mg "NOT_THERE" = some (.int (-2) tN)) (mr : mg "reversed" = none) (ma : mg "all" = none) (T : Txt K mg aP tM tW 0) : FnOk P w K mg base CX0 4 f fd ["p", "n", "v", "s"] (spHas K) := by
  have GS : FnOk P w K mg base CX0 3 fS fdS ["p", "n"] spSpace := ok_space FS T
  have GI : FnOk P w K mg base CX0 3 fI fdI ["p", "n", "s"] (spSet K) := ok_set FI FC bC gC T
  have GM : FnOk P w K mg base CX0 3 fM fdM ["s"] (spMem K) := ok_mem FM
  have GD : FnOk P w K mg base CX0 3 fD fdD ["p", "n", "v"] spDir := ok_dir FD FC bC gC FP bP gP FN bN gN T
  have GH : FnOk P w K mg base CX0 3 fH fdH ["p", "n", "v", "members"] spHl := ok_hl FH FN bN gN FU bU gU FL bL gL mr ma T
  refine F.ok scHas (fun vs H Q E h => ?_) (fun cdv A outer s H vs Q E hr h => ?_)
  · obtain ⟨p, n, v, a, s, rfl, _⟩ := h
    rfl
  · obtain ⟨p, n, v, a, s, rfl, hp0, hn0, hv0, hs, hlen, hz, q⟩ := h
    obtain ⟨p, rfl⟩ := Int.eq_ofNat_of_zero_le hp0
    obtain ⟨n, rfl⟩ := Int.eq_ofNat_of_zero_le hn0
    obtain ⟨v, rfl⟩ := Int.eq_ofNat_of_zero_le hv0
    obtain ⟨s, rfl⟩ := nat_list s hz
    rw [List.length_map] at hlen
    rw [ivs_ints] at hs
    refine ⟨_, pss_cons (ps_if (PW.pt (pw_or (pt_not (pt_val (pe_call GS hr (by rfl) gS FS.kp bS .nil pass0 (pa_cons (pv 0) (pa_cons (pv 1) pa_nil))))) (pw_or1 (pt_not (pt_val (pe_call GI hr (by rfl) gI FI.kp bI .nil pass0 (pa_cons (pv 0) (pa_cons (pv 1) (pa_cons (pv 3) pa_nil)))))))))
        (pss_one (ps_ret (pe_lst (pa_cons (pe_glob (v := .int (-22)) (by rfl) T.gW ⟨_, rfl⟩) pa_nil)))) pss_nil)
      (pss_cons (ps_if (pt_not (pt_val (pe_call GD hr (by rfl) gD FD.kp bD .nil pass0 (pa_cons (pv 0) (pa_cons (pv 1) (pa_cons (pv 2) pa_nil))))))
        (pss_one (ps_ret (pe_lst (pa_cons (pe_glob (v := .int (-2)) (by rfl) gNT ⟨_, rfl⟩) pa_nil)))) pss_nil)
      (pss_one (ps_ret (pe_lst (pa_cons (pe_ifExp (pt_val (pe_call GH hr (by rfl) gH FH.kp bH .nil pass0 (pa_cons (pv 0) (pa_cons (pv 1) (pa_cons (pv 2) (pa_cons (pe_call GM hr (by rfl) gM FM.kp bM .nil pass0 (pa_cons (pv 3) pa_nil)) pa_nil)))))) pe_int pe_int) pa_nil))))), ?_⟩
    refine ⟨iv p, rfl, iv n, rfl, p, n, rfl, _, rfl, ?_⟩
    cases hok : Kzt1.okField p n with
    | false =>
      refine iteT ?_
      refine iteT ?_
      refine ⟨by show 1 ≤ sizeLine; decide, fun l nl => ?_⟩
      refine q _ l ?_
      rw [has_no p n v s (.inl hok), upd_same]
      rfl
    | true =>
      refine iteF ?_
      obtain ⟨hpc, hn1, hn3⟩ := ok_cases hok
      have h0 : 0 < p := by omega
      have hp : p ≤ 7 := by omega
      refine ⟨iv p, rfl, iv n, rfl, .ref a, rfl, p, n, a, s, rfl, hs, hp, hn3, _, rfl, ?_⟩
      cases hset : Kzt1.okSet p n s with
      | false =>
        refine iteT ?_
        refine ⟨by show 1 ≤ sizeLine; decide, fun l nl => ?_⟩
        refine q _ l ?_
        rw [has_no p n v s (.inr hset), upd_same]
        rfl
      | true =>
        refine iteF ?_
        refine ⟨iv p, rfl, iv n, rfl, iv v, rfl, p, n, v, rfl, h0, hp, hn3, fun H1 sm1 => ⟨_, rfl, ?_⟩⟩
        cases hd : isDir p n v with
        | false =>
          refine iteT ?_
          refine ⟨by show 1 ≤ sizeLine; decide, fun l nl => ?_⟩
          refine q _ l ?_
          rw [has_out p n v s hok hset hd, upd_same]
          rfl
        | true =>
          refine iteF ?_
          refine ⟨iv p, rfl, iv n, rfl, iv v, rfl, .ref a, rfl, a, s, rfl, sm1.seq hs, okSet_nodup hset, hlen, fun H2 d sm2 nd hd2 => ?_⟩
          refine ⟨p, n, v, d, s, rfl, hd2, h0, hp, hn3, hlen, fun H3 sm3 => ⟨_, rfl, ?_⟩⟩
          cases ha : s.any (onLine p n s v) with
          | true =>
            refine iteT ?_
            refine ⟨by show 1 ≤ sizeLine; decide, fun l nl => ?_⟩
            refine q _ l ?_
            rw [has_in p n v s hok hset hd, upd_same, ha]
            rfl
          | false =>
            refine iteF ?_
            refine ⟨by show 1 ≤ sizeLine; decide, fun l nl => ?_⟩
            refine q _ l ?_
            rw [has_in p n v s hok hset hd, upd_same, ha]
            rfl
end
end KM
namespace KM
open PySem PySem.Spec PyProof.Rows L2
theorem primes_at {K : PySem.W.Frag} {aP : Addr} {od : Option Addr} {t2 t3 t5 t7 n : Nat} {sl : Array (Option Value)}
    (l : K.lookup aP = some ⟨.type "tuple", od, .seq #[.int 2 t2, .int 3 t3, .int 5 t5, .int 7 t7] n, sl⟩) (H : Hp) : SqT K H aP (ivs [2, 3, 5, 7]) :=
  .inr ⟨_, _, _, l, rfl, rfl, (by show 4 ≤ sizeLine; decide), .cons ⟨_, rfl⟩ (.cons ⟨_, rfl⟩ (.cons ⟨_, rfl⟩ (.cons ⟨_, rfl⟩ .nil)))⟩
theorem all_mk {P : Program} {w : World} {K : PySem.W.Frag} {h : Heap} {mg : Str → Option Value} {fa aP f1 f2 f3 f4 f5 f6 f7 f8 f9 f10 f11 : Addr} {t2 t3 t5 t7 nP tM tW tN : Nat} (X : K.In h) (G : h.Ns mainGlobals mg) (hfa : mg "has" = some (.ref fa))
    {odP od1 an1 od2 an2 od3 an3 od4 an4 od5 an5 od6 an6 od7 an7 od8 an8 od9 an9 od10 an10 od11 an11 : Option Addr} {slP sl1 sl2 sl3 sl4 sl5 sl6 sl7 sl8 sl9 sl10 sl11 : Array (Option Value)}
    {oc1 kV1 dc1 pm1 cd1 ct1 oc2 kV2 dc2 pm2 cd2 ct2 oc3 kV3 dc3 pm3 cd3 ct3 oc4 kV4 dc4 pm4 cd4 ct4 oc5 kV5 dc5 pm5 cd5 ct5 oc6 kV6 dc6 pm6 cd6 ct6 oc7 kV7 dc7 pm7 cd7 ct7 oc8 kV8 dc8 pm8 cd8 ct8 oc9 kV9 dc9 pm9 cd9 ct9 oc10 kV10 dc10 pm10 cd10 ct10 oc11 kV11 dc11 pm11 cd11 ct11 : Value}
    (aPr : PySem.W.nsIn K mainGlobals "PRIMES" = some (some (.ref aP))) (lPr : K.lookup aP = some ⟨.type "tuple", odP, .seq #[.int 2 t2, .int 3 t3, .int 5 t5, .int 7 t7] nP, slP⟩)
    (kM : PySem.W.nsIn K mainGlobals "MOST_NUMBERS" = some (some (.int 3 tM)))
    (kW : PySem.W.nsIn K mainGlobals "WRONG_FORM" = some (some (.int (-22) tW)))
    (kN : PySem.W.nsIn K mainGlobals "NOT_THERE" = some (some (.int (-2) tN)))
    (z1 : PySem.W.nsIn K mainGlobals "range" = some none)
    (z2 : PySem.W.nsIn K mainGlobals "reversed" = some none)
    (z3 : PySem.W.nsIn K mainGlobals "all" = some none)
    (a1 : PySem.W.nsIn K mainGlobals "has" = some (some (.ref f1))) (l1 : K.lookup f1 = some ⟨oc1, od1, .func (PySem.W.fnOf "has" "has" (defArgs sTop) (defBody sTop) (defScope sTop) .none kV1 dc1 pm1 an1 cd1 ct1), sl1⟩) (c1 : PySem.W.codeIn K cd1 "has" = true) (k1 : PySem.W.keepIn K (.ref f1) = true)
    (a2 : PySem.W.nsIn K mainGlobals "is_space" = some (some (.ref f2))) (l2 : K.lookup f2 = some ⟨oc2, od2, .func (PySem.W.fnOf "is_space" "is_space" (defArgs sSpace) (defBody sSpace) (defScope sSpace) .none kV2 dc2 pm2 an2 cd2 ct2), sl2⟩) (c2 : PySem.W.codeIn K cd2 "is_space" = true) (k2 : PySem.W.keepIn K (.ref f2) = true)
    (a3 : PySem.W.nsIn K mainGlobals "count_points" = some (some (.ref f3))) (l3 : K.lookup f3 = some ⟨oc3, od3, .func (PySem.W.fnOf "count_points" "count_points" (defArgs sCount) (defBody sCount) (defScope sCount) .none kV3 dc3 pm3 an3 cd3 ct3), sl3⟩) (c3 : PySem.W.codeIn K cd3 "count_points" = true) (k3 : PySem.W.keepIn K (.ref f3) = true)
    (a4 : PySem.W.nsIn K mainGlobals "is_point" = some (some (.ref f4))) (l4 : K.lookup f4 = some ⟨oc4, od4, .func (PySem.W.fnOf "is_point" "is_point" (defArgs sPoint) (defBody sPoint) (defScope sPoint) .none kV4 dc4 pm4 an4 cd4 ct4), sl4⟩) (c4 : PySem.W.codeIn K cd4 "is_point" = true) (k4 : PySem.W.keepIn K (.ref f4) = true)
    (a5 : PySem.W.nsIn K mainGlobals "numbers_of_point" = some (some (.ref f5))) (l5 : K.lookup f5 = some ⟨oc5, od5, .func (PySem.W.fnOf "numbers_of_point" "numbers_of_point" (defArgs sNums) (defBody sNums) (defScope sNums) .none kV5 dc5 pm5 an5 cd5 ct5), sl5⟩) (c5 : PySem.W.codeIn K cd5 "numbers_of_point" = true) (k5 : PySem.W.keepIn K (.ref f5) = true)
    (a6 : PySem.W.nsIn K mainGlobals "point_of_numbers" = some (some (.ref f6))) (l6 : K.lookup f6 = some ⟨oc6, od6, .func (PySem.W.fnOf "point_of_numbers" "point_of_numbers" (defArgs sUp) (defBody sUp) (defScope sUp) .none kV6 dc6 pm6 an6 cd6 ct6), sl6⟩) (c6 : PySem.W.codeIn K cd6 "point_of_numbers" = true) (k6 : PySem.W.keepIn K (.ref f6) = true)
    (a7 : PySem.W.nsIn K mainGlobals "is_set" = some (some (.ref f7))) (l7 : K.lookup f7 = some ⟨oc7, od7, .func (PySem.W.fnOf "is_set" "is_set" (defArgs sSet) (defBody sSet) (defScope sSet) .none kV7 dc7 pm7 an7 cd7 ct7), sl7⟩) (c7 : PySem.W.codeIn K cd7 "is_set" = true) (k7 : PySem.W.keepIn K (.ref f7) = true)
    (a8 : PySem.W.nsIn K mainGlobals "members_of_set" = some (some (.ref f8))) (l8 : K.lookup f8 = some ⟨oc8, od8, .func (PySem.W.fnOf "members_of_set" "members_of_set" (defArgs sMem) (defBody sMem) (defScope sMem) .none kV8 dc8 pm8 an8 cd8 ct8), sl8⟩) (c8 : PySem.W.codeIn K cd8 "members_of_set" = true) (k8 : PySem.W.keepIn K (.ref f8) = true)
    (a9 : PySem.W.nsIn K mainGlobals "is_direction" = some (some (.ref f9))) (l9 : K.lookup f9 = some ⟨oc9, od9, .func (PySem.W.fnOf "is_direction" "is_direction" (defArgs sDir) (defBody sDir) (defScope sDir) .none kV9 dc9 pm9 an9 cd9 ct9), sl9⟩) (c9 : PySem.W.codeIn K cd9 "is_direction" = true) (k9 : PySem.W.keepIn K (.ref f9) = true)
    (a10 : PySem.W.nsIn K mainGlobals "points_of_line" = some (some (.ref f10))) (l10 : K.lookup f10 = some ⟨oc10, od10, .func (PySem.W.fnOf "points_of_line" "points_of_line" (defArgs sPol) (defBody sPol) (defScope sPol) .none kV10 dc10 pm10 an10 cd10 ct10), sl10⟩) (c10 : PySem.W.codeIn K cd10 "points_of_line" = true) (k10 : PySem.W.keepIn K (.ref f10) = true)
    (a11 : PySem.W.nsIn K mainGlobals "has_line" = some (some (.ref f11))) (l11 : K.lookup f11 = some ⟨oc11, od11, .func (PySem.W.fnOf "has_line" "has_line" (defArgs sHl) (defBody sHl) (defScope sHl) .none kV11 dc11 pm11 an11 cd11 ct11), sl11⟩) (c11 : PySem.W.codeIn K cd11 "has_line" = true) (k11 : PySem.W.keepIn K (.ref f11) = true) :
    ∃ fd : FuncData, (∀ (s : Shared) (us : List Value), us.length = (["p", "n", "v", "s"] : List Str).length → BindsTo s fd ⟨us, []⟩ ((["p", "n", "v", "s"] : List Str).zip us)) ∧ ∀ base : Heap, K.In base → base.Ns mainGlobals mg → FnOk P w K mg base CX0 4 fa fd ["p", "n", "v", "s"] (spHas K) := by
  have e := hfa.symm.trans (PySem.W.mg_of X G a1)
  cases e
  have T : Txt K mg aP tM tW 0 := ⟨PySem.W.mg_of X G aPr, primes_at lPr, PySem.W.mg_of X G kM, PySem.W.mg_of X G kW, PySem.W.mg_none_of X G z1⟩
  have F1 := fun_mk (st := sTop) l1 c1 k1
  have F2 := fun_mk (st := sSpace) l2 c2 k2
  have F3 := fun_mk (st := sCount) l3 c3 k3
  have F4 := fun_mk (st := sPoint) l4 c4 k4
  have F5 := fun_mk (st := sNums) l5 c5 k5
  have F6 := fun_mk (st := sUp) l6 c6 k6
  have F7 := fun_mk (st := sSet) l7 c7 k7
  have F8 := fun_mk (st := sMem) l8 c8 k8
  have F9 := fun_mk (st := sDir) l9 c9 k9
  have F10 := fun_mk (st := sPol) l10 c10 k10
  have F11 := fun_mk (st := sHl) l11 c11 k11
  have b2 := F2.binds (ps := ["p", "n"]) fun _ _ _ _ _ _ us hl => match us, hl with | [_, _], _ => rfl
  have b3 := F3.binds (ps := ["p", "n"]) fun _ _ _ _ _ _ us hl => match us, hl with | [_, _], _ => rfl
  have b4 := F4.binds (ps := ["p", "n", "x"]) fun _ _ _ _ _ _ us hl => match us, hl with | [_, _, _], _ => rfl
  have b5 := F5.binds (ps := ["p", "n", "point"]) fun _ _ _ _ _ _ us hl => match us, hl with | [_, _, _], _ => rfl
  have b6 := F6.binds (ps := ["p", "numbers"]) fun _ _ _ _ _ _ us hl => match us, hl with | [_, _], _ => rfl
  have b7 := F7.binds (ps := ["p", "n", "s"]) fun _ _ _ _ _ _ us hl => match us, hl with | [_, _, _], _ => rfl
  have b8 := F8.binds (ps := ["s"]) fun _ _ _ _ _ _ us hl => match us, hl with | [_], _ => rfl
  have b9 := F9.binds (ps := ["p", "n", "v"]) fun _ _ _ _ _ _ us hl => match us, hl with | [_, _, _], _ => rfl
  have b10 := F10.binds (ps := ["p", "n", "x", "v"]) fun _ _ _ _ _ _ us hl => match us, hl with | [_, _, _, _], _ => rfl
  have b11 := F11.binds (ps := ["p", "n", "v", "members"]) fun _ _ _ _ _ _ us hl => match us, hl with | [_, _, _, _], _ => rfl
  exact ⟨PySem.W.fnOf "has" "has" (defArgs sTop) (defBody sTop) (defScope sTop) .none kV1 dc1 pm1 an1 cd1 ct1, fun s us hu => match us, hu with | [_, _, _, _], _ => .of_eq rfl, fun base _ _ =>
    ok_top F1 F2 b2 (PySem.W.mg_of X G a2) F3 b3 (PySem.W.mg_of X G a3) F4 b4 (PySem.W.mg_of X G a4) F5 b5 (PySem.W.mg_of X G a5) F6 b6 (PySem.W.mg_of X G a6) F7 b7 (PySem.W.mg_of X G a7) F8 b8 (PySem.W.mg_of X G a8) F9 b9 (PySem.W.mg_of X G a9) F10 b10 (PySem.W.mg_of X G a10) F11 b11 (PySem.W.mg_of X G a11) (PySem.W.mg_of X G kN) (PySem.W.mg_none_of X G z2) (PySem.W.mg_none_of X G z3) T⟩
end KM
open PySem PySem.W PyProof.Rows
set_option maxRecDepth 100000 in
set_option maxHeartbeats 8000000 in
theorem PySem.Challenge.cw_everywaydesk_s03_has_holds : PySem.Challenge.rw_everywaydesk_s03_has.Holds := by
  w_on; k_headS; (case hw => exact ⟨[.int 2, .int 1, .int 1, .list []], by decide +kernel, by decide +kernel⟩)
  k_fillS
  refine L2.walk_specK (r := PySem.Challenge.rw_everywaydesk_s03_has) (k := 4) (CX := L2.CX0) (ps := ["p", "n", "v", "s"]) (sp := fun K => KM.spHas K) (by decide +kernel) rfl rfl ⟨rfl, by decide, by decide⟩ (fun w h Y => PySem.W.kIn_of Y) ?F ?S (fun _ _ _ _ z => z)
  case F =>
    intro w mg fa h Y KX G hmg
    refine' KM.all_mk KX G hmg ?aPr ?lPr ?kM ?kW ?kN ?z1 ?z2 ?z3 ?a1 ?l1 ?c1 ?k1 ?a2 ?l2 ?c2 ?k2 ?a3 ?l3 ?c3 ?k3 ?a4 ?l4 ?c4 ?k4 ?a5 ?l5 ?c5 ?k5 ?a6 ?l6 ?c6 ?k6 ?a7 ?l7 ?c7 ?k7 ?a8 ?l8 ?c8 ?k8 ?a9 ?l9 ?c9 ?k9 ?a10 ?l10 ?c10 ?k10 ?a11 ?l11 ?c11 ?k11
    (case aPr => k_is)
    (case lPr => k_is)
    (case kM => k_is)
    (case kW => k_is)
    (case kN => k_is)
    (case z1 => k_is)
    (case z2 => k_is)
    (case z3 => k_is)
    (case a1 => k_is)
    (case l1 => k_is)
    (case c1 => k_is)
    (case k1 => k_is)
    (case a2 => k_is)
    (case l2 => k_is)
    (case c2 => k_is)
    (case k2 => k_is)
    (case a3 => k_is)
    (case l3 => k_is)
    (case c3 => k_is)
    (case k3 => k_is)
    (case a4 => k_is)
    (case l4 => k_is)
    (case c4 => k_is)
    (case k4 => k_is)
    (case a5 => k_is)
    (case l5 => k_is)
    (case c5 => k_is)
    (case k5 => k_is)
    (case a6 => k_is)
    (case l6 => k_is)
    (case c6 => k_is)
    (case k6 => k_is)
    (case a7 => k_is)
    (case l7 => k_is)
    (case c7 => k_is)
    (case k7 => k_is)
    (case a8 => k_is)
    (case l8 => k_is)
    (case c8 => k_is)
    (case k8 => k_is)
    (case a9 => k_is)
    (case l9 => k_is)
    (case c9 => k_is)
    (case k9 => k_is)
    (case a10 => k_is)
    (case l10 => k_is)
    (case c10 => k_is)
    (case k10 => k_is)
    (case a11 => k_is)
    (case l11 => k_is)
    (case c11 => k_is)
    (case k11 => k_is)
  case S =>
    intro K H xs a hO hwi hask hx
    obtain ⟨p, n, v, s, u⟩ := a
    cases hx with
    | cons h1 r1 =>
      cases r1 with
      | cons h2 r2 =>
        cases r2 with
        | cons h3 r3 =>
          cases r3 with
          | cons h4 r4 =>
            cases r4
            cases h1
            cases h2
            cases h3
            cases h4 with
            | lst hs ha =>
              have e := L2.ints_dw s _ ha
              subst e
              have q : (Codec.inInt 0 4294967295 p && (Codec.inInt 0 4294967295 n && (Codec.inInt 0 4294967295 v && ((Codec.inLen 0 400 s && s.all (Codec.inInt 0 4294967295)) && true)))) = true := hwi
              rw [Bool.and_eq_true, Bool.and_eq_true, Bool.and_eq_true, Bool.and_eq_true, Bool.and_eq_true] at q
              have lo : ∀ z : Int, Codec.inInt 0 4294967295 z = true → 0 ≤ z := fun z hz => by
                unfold Codec.inInt at hz
                simp only [Bool.and_eq_true, decide_eq_true_eq] at hz
                exact hz.1
              exact ⟨p, n, v, _, s, rfl, lo _ q.1, lo _ q.2.1, lo _ q.2.2.1, hs, (Codec.inNat_iff.mp q.2.2.2.1.1).2, (fun z hz => lo _ (List.all_eq_true.mp q.2.2.2.1.2 z hz)), fun H' r hr => .lst (L2.SqL.of hr) (L2.dw_ints _)⟩
#print axioms PySem.Challenge.cw_everywaydesk_s03_has_holds
