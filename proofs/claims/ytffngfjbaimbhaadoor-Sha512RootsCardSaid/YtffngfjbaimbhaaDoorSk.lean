/- The digests of the chapter's examples, reckoned by the kernel. -/
import Derived.Test.YtffngfjbaimbhaaDoorSj
namespace Go.Proofs.YtffngfjbaimbhaaDoor
open Go.RowKit
def exA : List (BitVec 8) := [207, 131, 225, 53, 126, 239, 184, 189, 241, 84, 40, 80, 214, 109, 128, 7, 214, 32, 228, 5, 11, 87, 21, 220, 131, 244, 169, 33, 211, 108, 233, 206, 71, 208, 209, 60, 93, 133, 242, 176, 255, 131, 24, 210, 135, 126, 236, 47, 99, 185, 49, 189, 71, 65, 122, 129, 165, 56, 50, 122, 249, 39, 218, 62]
def exB : List (BitVec 8) := [221, 175, 53, 161, 147, 97, 122, 186, 204, 65, 115, 73, 174, 32, 65, 49, 18, 230, 250, 78, 137, 169, 126, 162, 10, 158, 238, 230, 75, 85, 211, 154, 33, 146, 153, 42, 39, 79, 193, 168, 54, 186, 60, 35, 163, 254, 235, 189, 69, 77, 68, 35, 100, 60, 232, 14, 42, 154, 201, 79, 165, 76, 164, 159]
def exC : List (BitVec 8) := [198, 114, 184, 209, 239, 86, 237, 40, 171, 135, 195, 98, 44, 81, 20, 6, 155, 221, 58, 215, 184, 249, 115, 116, 152, 208, 192, 30, 206, 240, 150, 122]
def exD : List (BitVec 8) := [83, 4, 142, 38, 129, 148, 30, 249, 155, 46, 41, 183, 107, 76, 125, 171, 228, 194, 208, 198, 52, 252, 109, 70, 224, 226, 241, 49, 7, 231, 175, 35]
set_option maxRecDepth 100000
theorem sum_none : sumB [] = exA := by decide +kernel
theorem sum_abc : sumB [97, 98, 99] = exB := by decide +kernel
theorem short_none : shortB [] = exC := by decide +kernel
theorem short_abc : shortB [97, 98, 99] = exD := by decide +kernel
end Go.Proofs.YtffngfjbaimbhaaDoor
