/- FnMovingTimedOfAll: what is known of the answers of the functions that it calls: the facts, named. No program. -/
import Derived.Test.YthcoipoihieggaaDoorMtL
namespace Go.Proofs.YthcoipoihieggaaDoor
set_option maxRecDepth 100000
open Go.RowKit

/-- what is known of a ride with the stair -/
structure MtOk (x y p t1 d1 t2 d2 t5 d5 : Int) (ws : List Int) : Prop where
  r : (1 ≤ x ∧ x ≤ 500) ∧ (0 ≤ y ∧ y ≤ 20) ∧ (0 ≤ p ∧ p ≤ 20)
  q1 : (0 ≤ t1 ∧ t1 ≤ 500) ∧ (1 ≤ d1 ∧ d1 ≤ 500)
  q2 : (0 ≤ t2 ∧ t2 ≤ 10000) ∧ (1 ≤ d2 ∧ d2 ≤ 10000)
  q5 : (0 ≤ t5 ∧ t5 ≤ 1000) ∧ (1 ≤ d5 ∧ d5 ≤ 1000)
  l1 : lowB t1 d1 = true
  e1 : t1 * (y + p) = x * d1
  l2 : lowB t2 d2 = true
  e2 : t2 * d1 = p * t1 * d2
  l5 : lowB t5 d5 = true
  e5 : t5 * d1 = 2 * t1 * d5
  eh : hasB ws p = (d1 == 1)
/-- .. against it -/
structure Mt3 (x y p t1 d1 t3 d3 t4 d4 : Int) : Prop where
  hp : y < p
  q3 : (0 ≤ t3 ∧ t3 ≤ 500) ∧ (1 ≤ d3 ∧ d3 ≤ 500)
  q4 : (0 ≤ t4 ∧ t4 ≤ 10000) ∧ (1 ≤ d4 ∧ d4 ≤ 10000)
  l3 : lowB t3 d3 = true
  e3 : t3 * (p - y) = x * d3
  l4 : lowB t4 d4 = true
  e4 : t4 * d3 = p * t3 * d4
  lo : t1 * d3 ≤ t3 * d1
structure MtTwo (p s o m v k u f : Int) : Prop where
  r : (1 ≤ p ∧ p ≤ 20) ∧ (1 ≤ o ∧ o ≤ 20) ∧ (1 ≤ s ∧ s ≤ 10000) ∧ (1 ≤ m ∧ m ≤ 10000)
  qv : (0 ≤ v ∧ v ≤ 2000000000) ∧ (1 ≤ k ∧ k ≤ 200000)
  qu : (0 ≤ u ∧ u ≤ 4000000) ∧ (1 ≤ f ∧ f ≤ 200000)
  l1 : lowB v k = true
  l2 : lowB u f = true
  e1 : v * p * f = s * (p * f + u) * k
  e2 : v * o * f = m * (o * f + u) * k
structure MtBoth (a b n d : Int) : Prop where
  r : (1 ≤ a ∧ a ≤ 10000) ∧ (1 ≤ b ∧ b ≤ 10000)
  q : (0 ≤ n ∧ n ≤ 200000000) ∧ (1 ≤ d ∧ d ≤ 20000)
  l : lowB n d = true
  e : n * (a + b) = 2 * a * b * d
  lo : a * d ≤ n
  hi : n ≤ b * d
structure MtPace (x y s n d : Int) : Prop where
  r : (1 ≤ x ∧ x ≤ 500) ∧ (0 ≤ y ∧ y ≤ 20) ∧ (0 ≤ s ∧ s ≤ 500)
  q : (0 ≤ n ∧ n ≤ 10000) ∧ (1 ≤ d ∧ d ≤ 500)
  l : lowB n d = true
  e : n * x = s * (y * d + n)

end Go.Proofs.YthcoipoihieggaaDoor
