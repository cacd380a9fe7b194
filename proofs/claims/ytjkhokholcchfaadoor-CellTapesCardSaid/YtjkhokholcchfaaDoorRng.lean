/- What each of the laws asks first: has a word keys, and none none. -/
import Derived.Test.YtjkhokholcchfaaDoorBld
namespace Go.Proofs.YtjkhokholcchfaaDoor
open Go.RowKit Sha

def wordL : List UInt8 := [119, 111, 114, 100]
def saltL : List UInt8 := [48, 49, 50, 51, 52, 53, 54, 55, 56, 57, 97, 98, 99, 100, 101, 102]
def ringS : List UInt8 := [41, 42, 128, 243, 35, 57, 29, 12, 82, 111, 26, 20, 233, 213, 110, 228, 168, 62, 95, 65, 226, 189, 199, 87, 232, 57, 209, 254, 181, 43, 93, 159]
set_option maxRecDepth 100000 in
theorem ringS_eq : stretch wordL saltL 1 = ringS := by decide +kernel
set_option maxRecDepth 100000 in
theorem ring_hide : hmac ringS hideW = [236, 19, 235, 135, 24, 166, 80, 230, 150, 70, 203, 114, 225, 71, 38, 139, 119, 41, 35, 121, 219, 249, 70, 123, 152, 160, 114, 212, 175, 201, 144, 16] := by decide +kernel
set_option maxRecDepth 100000 in
theorem ring_mark : hmac ringS markW = [186, 215, 34, 22, 41, 80, 37, 241, 82, 34, 198, 149, 159, 175, 35, 109, 227, 22, 86, 238, 104, 226, 173, 226, 121, 79, 110, 143, 255, 28, 111, 88] := by decide +kernel
set_option maxRecDepth 100000 in
theorem ring_name : hmac ringS nameW = [111, 201, 211, 97, 59, 164, 179, 124, 132, 159, 88, 201, 153, 151, 180, 121, 150, 183, 95, 51, 167, 184, 198, 56, 129, 4, 110, 33, 173, 28, 121, 85] := by decide +kernel
set_option maxRecDepth 100000 in
theorem ring_apart : hmac ringS hideW ≠ hmac ringS markW := by
  rw [ring_hide, ring_mark]
  decide
set_option maxRecDepth 100000 in
theorem ring_named : hmac ringS nameW ≠ List.replicate 32 0 := by
  rw [ring_name]
  decide
end Go.Proofs.YtjkhokholcchfaaDoor
